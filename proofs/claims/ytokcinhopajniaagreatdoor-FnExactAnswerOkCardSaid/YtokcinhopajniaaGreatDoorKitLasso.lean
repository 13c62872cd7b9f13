/-
  Contracts of the laws' own helpers for plays: toLasso, szLasso, eqLasso, markLasso, heldLasso.
-/
import Derived.Test.YtokcinhopajniaaGreatDoorLasso
import Derived.Test.YtokcinhopajniaaGreatDoorBase1
import Derived.Test.YtokcinhopajniaaGreatDoorKitGame
namespace Go.Proofs.YtokcinhopajniaaGreatDoor
open Go.RowKit

/-- How many places a play takes. -/
def sizeLasso (X Y : List Int) : Nat := X.length + Y.length

end Go.Proofs.YtokcinhopajniaaGreatDoor
