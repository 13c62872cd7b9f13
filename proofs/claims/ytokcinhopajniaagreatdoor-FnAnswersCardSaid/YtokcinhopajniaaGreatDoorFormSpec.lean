/-
  Contracts of chapter 6: the model's l6Form, PartOf.
-/
import Derived.Test.YtokcinhopajniaaGreatDoorAnswerSpec
import Derived.Test.YtokcinhopajniaaGreatDoorPlanSpec
namespace Go.Proofs.YtokcinhopajniaaGreatDoor
open Go.RowKit

/-- What the form of an answer asks of one vertex. -/
def FormV (O : List Int) (zss : List (List Int)) (X Y : List Int) (v : Nat) : Prop :=
  (0 ≤ nth X v ∧ nth X v ≤ 1) ∧ (nth X v = nth O v ↔ nth Y v ≠ -1) ∧ (nth X v = nth O v → nth Y v ∈ row zss v)
def FormP (O : List Int) (zss : List (List Int)) (P X Y : List Int) : Prop := X.length = P.length ∧ Y.length = P.length ∧ ∀ v, v < X.length → FormV O zss X Y v
noncomputable def formB (O : List Int) (zss : List (List Int)) (P X Y : List Int) : Bool := parityB O zss P && @decide (FormP O zss P X Y) (Classical.propDecidable _)
theorem formB_iff {O P X Y : List Int} {zss : List (List Int)} : formB O zss P X Y = true ↔ parityB O zss P = true ∧ FormP O zss P X Y := by
  unfold formB; rw [Bool.and_eq_true, @decide_eq_true_eq _ (Classical.propDecidable _)]
theorem formB_no {O P X Y : List Int} {zss : List (List Int)} (h : ¬ FormP O zss P X Y) : formB O zss P X Y = false := by
  cases hf : formB O zss P X Y with
  | false => rfl
  | true => exact absurd (formB_iff.1 hf).2 h

end Go.Proofs.YtokcinhopajniaaGreatDoor
