/-
  Contract: the program's InsideOf.
-/
import Derived.Test.YtokcinhopajniaaGreatDoorWalks1
namespace Go.Proofs.YtokcinhopajniaaGreatDoor
open Go.RowKit

end Go.Proofs.YtokcinhopajniaaGreatDoor
