/-
  Contract: the model's SameParity.
-/
import Derived.Test.YtokcinhopajniaaGreatDoorParity1
import Derived.Test.YtokcinhopajniaaGreatDoorSame
namespace Go.Proofs.YtokcinhopajniaaGreatDoor
open Go.RowKit

/-- Are both games valid and equal? -/
noncomputable def samePB (O : List Int) (zss : List (List Int)) (P O' : List Int) (zss' : List (List Int)) (P' : List Int) : Bool := parityB O zss P && (parityB O' zss' P' && (sameB O zss O' zss' && decide (P = P')))

end Go.Proofs.YtokcinhopajniaaGreatDoor
