/-
  Contracts of chapter 5: the model's PlanOk and FullIn.
-/
import Derived.Test.YtjnbpllalbfeiaaSpecArena
import Derived.Test.YtjnbpllalbfeiaaBase1
namespace Go.Proofs.Ytjnbpllalbfeiaa
open Go.RowKit

/-- What a plan says of one vertex. -/
def PlanV (O : List Int) (zss : List (List Int)) (who : Int) (P : List Int) (v : Nat) : Prop := nth P v = -1 ∨ (nth O v = who ∧ nth P v ∈ row zss v)
/-- A plan of who, over a valid arena. -/
def PlanP (O : List Int) (zss : List (List Int)) (who : Int) (P : List Int) : Prop := P.length = O.length ∧ ∀ v, v < P.length → PlanV O zss who P v
noncomputable def planC (O : List Int) (zss : List (List Int)) (who : Int) (P : List Int) : Bool := @decide (PlanP O zss who P) (Classical.propDecidable _)
theorem planC_yes {O : List Int} {zss : List (List Int)} {who : Int} {P : List Int} (h : PlanP O zss who P) : planC O zss who P = true := by unfold planC; simp [h]
theorem planC_no {O : List Int} {zss : List (List Int)} {who : Int} {P : List Int} (h : ¬ PlanP O zss who P) : planC O zss who P = false := by unfold planC; simp [h]
/-- A valid arena, a player and a plan. -/
noncomputable def planB (O : List Int) (zss : List (List Int)) (who : Int) (P : List Int) : Bool := arenaB O zss && (inB who 0 1 && planC O zss who P)
theorem planB_iff {O : List Int} {zss : List (List Int)} {who : Int} {P : List Int} : planB O zss who P = true ↔ ArenaP O zss ∧ (0 ≤ who ∧ who ≤ 1) ∧ PlanP O zss who P := by
  unfold planB
  rw [Bool.and_eq_true, Bool.and_eq_true, arenaB_iff]
  unfold inB planC
  rw [decide_eq_true_eq, @decide_eq_true_eq _ (Classical.propDecidable _)]
/-- A full plan. -/
def FullP (O : List Int) (who : Int) (P : List Int) : Prop := ∀ v, v < P.length → nth O v = who → 0 ≤ nth P v
noncomputable def fullB (O : List Int) (zss : List (List Int)) (who : Int) (P : List Int) : Bool := planB O zss who P && @decide (FullP O who P) (Classical.propDecidable _)
theorem fullB_iff {O : List Int} {zss : List (List Int)} {who : Int} {P : List Int} : fullB O zss who P = true ↔ (ArenaP O zss ∧ (0 ≤ who ∧ who ≤ 1) ∧ PlanP O zss who P) ∧ FullP O who P := by
  unfold fullB
  rw [Bool.and_eq_true, planB_iff, @decide_eq_true_eq _ (Classical.propDecidable _)]

end Go.Proofs.Ytjnbpllalbfeiaa
