/-
  Contract: the program's InsideOf.
-/
import Derived.Test.YtokcinhopajniaaWalks1
namespace Go.Proofs.Ytokcinhopajniaa
open Go.RowKit

end Go.Proofs.Ytokcinhopajniaa
