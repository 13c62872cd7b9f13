/-
  Contract of chapter 6: the model's ClosedIn.
-/
import Derived.Test.YtokcinhopajniaaCheckMath
import Derived.Test.YtokcinhopajniaaPlanSpec
import Derived.Test.YtokcinhopajniaaLoops
namespace Go.Proofs.Ytokcinhopajniaa
open Go.RowKit

theorem marks_has {S : List Int} {u : Nat} : openS S S.length u = hasB S (u : Int) := by
  rw [Bool.eq_iff_iff, hasB_iff]; simp [openS]

/-- What closedness says of the vertex u. -/
def ClosV (O : List Int) (zss : List (List Int)) (who : Int) (S Q : List Int) (u : Nat) : Prop :=
  (nth O u = who → 0 ≤ nth Q u ∧ nth Q u ∈ S) ∧ (nth O u ≠ who → ∀ x ∈ row zss u, x ∈ S)

end Go.Proofs.Ytokcinhopajniaa
