/-
  Contract: the model's SameParity.
-/
import Derived.Test.YtokcinhopajniaaParity1
import Derived.Test.YtokcinhopajniaaSame
namespace Go.Proofs.Ytokcinhopajniaa
open Go.RowKit

/-- Are both games valid and equal? -/
noncomputable def samePB (O : List Int) (zss : List (List Int)) (P O' : List Int) (zss' : List (List Int)) (P' : List Int) : Bool := parityB O zss P && (parityB O' zss' P' && (sameB O zss O' zss' && decide (P = P')))

end Go.Proofs.Ytokcinhopajniaa
