/-
  Contracts of the laws' own helpers for plays: toLasso, szLasso, eqLasso, markLasso, heldLasso.
-/
import Derived.Test.YtokcinhopajniaaLasso
import Derived.Test.YtokcinhopajniaaBase1
import Derived.Test.YtokcinhopajniaaKitGame
namespace Go.Proofs.Ytokcinhopajniaa
open Go.RowKit

/-- How many places a play takes. -/
def sizeLasso (X Y : List Int) : Nat := X.length + Y.length

end Go.Proofs.Ytokcinhopajniaa
