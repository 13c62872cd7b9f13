/-
  Contract: the model's SameParity.
-/
import Derived.Test.YtjnbpllalbfeiaaParity1
import Derived.Test.YtjnbpllalbfeiaaSame
namespace Go.Proofs.Ytjnbpllalbfeiaa
open Go.RowKit

/-- Are both games valid and equal? -/
noncomputable def samePB (O : List Int) (zss : List (List Int)) (P O' : List Int) (zss' : List (List Int)) (P' : List Int) : Bool := parityB O zss P && (parityB O' zss' P' && (sameB O zss O' zss' && decide (P = P')))

end Go.Proofs.Ytjnbpllalbfeiaa
