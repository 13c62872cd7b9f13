/-
  The checker of strategies: what it calls closed, bad, clean; and that a plan it accepts wins. No program text.
-/
import Derived.Test.YtokcinhopajniaaGreatDoorPlayTrue
import Derived.Test.YtokcinhopajniaaGreatDoorWonMath
namespace Go.Proofs.YtokcinhopajniaaGreatDoor
open Go.RowKit

/-- Closed under a plan: a vertex of who has a choice in the region, all successors of the others lie in it. -/
def ClosP (O : List Int) (zss : List (List Int)) (who : Int) (S Q : List Int) : Prop :=
  ∀ v : Nat, (v : Int) ∈ S → (nth O v = who → 0 ≤ nth Q v ∧ nth Q v ∈ S) ∧ (nth O v ≠ who → ∀ x ∈ row zss v, x ∈ S)
noncomputable def closB (O : List Int) (zss : List (List Int)) (who : Int) (S Q : List Int) : Bool := planB O zss who Q && (setB O.length S && @decide (ClosP O zss who S Q) (Classical.propDecidable _))
theorem closB_iff {O S Q : List Int} {zss : List (List Int)} {who : Int} : closB O zss who S Q = true ↔ planB O zss who Q = true ∧ setB O.length S = true ∧ ClosP O zss who S Q := by
  unfold closB
  rw [Bool.and_eq_true, Bool.and_eq_true, @decide_eq_true_eq _ (Classical.propDecidable _)]
/-- The vertices of a region of no greater priority. -/
def lowI (P S : List Int) (v : Nat) : Nat → Bool := fun u => hasB S (u : Int) && decide (nth P u ≤ nth P v)
/-- A vertex of the opponent's parity on a loop of no greater priority. -/
def BadP (zss : List (List Int)) (P : List Int) (who : Int) (S Q : List Int) (v : Nat) : Prop := nth P v % 2 ≠ who ∧ Rch (fixK zss Q zss.length) (lowI P S v) [(v : Int)] v
noncomputable def badM (zss : List (List Int)) (P : List Int) (who : Int) (S Q : List Int) (x : Int) : Bool := @decide (BadP zss P who S Q x.toNat) (Classical.propDecidable _)
/-- Is all of it in order? -/
noncomputable def rightB (O : List Int) (zss : List (List Int)) (P : List Int) (who : Int) (S Q : List Int) : Bool := parityB O zss P && (planB O zss who Q && setB P.length S)
noncomputable def badL (O : List Int) (zss : List (List Int)) (P : List Int) (who : Int) (S Q : List Int) : List Int := if rightB O zss P who S Q = true then S.filter (badM zss P who S Q) else []
noncomputable def cleanB (O : List Int) (zss : List (List Int)) (P : List Int) (who : Int) (S Q : List Int) : Bool := rightB O zss P who S Q && decide ((badL O zss P who S Q).length = 0)
noncomputable def winsB (O : List Int) (zss : List (List Int)) (P : List Int) (who : Int) (S Q : List Int) : Bool := cleanB O zss P who S Q && closB O zss who S Q
theorem cleanB_iff {O P S Q : List Int} {zss : List (List Int)} {who : Int} : cleanB O zss P who S Q = true ↔ rightB O zss P who S Q = true ∧ ∀ v : Nat, (v : Int) ∈ S → ¬ BadP zss P who S Q v := by
  unfold cleanB
  rw [Bool.and_eq_true, decide_eq_true_eq, List.length_eq_zero_iff]
  constructor
  · rintro ⟨h1, h2⟩
    refine ⟨h1, fun v hv hb => ?_⟩
    unfold badL at h2
    rw [if_pos h1, List.filter_eq_nil_iff] at h2
    refine h2 _ hv ?_
    unfold badM
    rw [@decide_eq_true_eq _ (Classical.propDecidable _), Int.toNat_natCast]
    exact hb
  · rintro ⟨h1, h2⟩
    refine ⟨h1, ?_⟩
    unfold badL
    rw [if_pos h1, List.filter_eq_nil_iff]
    intro x hx
    unfold badM
    rw [@decide_eq_true_eq _ (Classical.propDecidable _)]
    unfold rightB at h1
    rw [Bool.and_eq_true, Bool.and_eq_true] at h1
    obtain ⟨i, hi, rfl⟩ := mem_nth.1 hx
    have h0 := (setB_bounds h1.2.2 hi).1
    have e : nth S i = ((nth S i).toNat : Int) := by omega
    rw [e] at hx
    exact h2 _ hx

/-- Along a run from i on all that follows is reached. -/
theorem rch_run {es : List (List Int)} {I : Nat → Bool} {f : Nat → Nat} (he : ∀ k, (f (k + 1) : Int) ∈ row es (f k)) {i : Nat} : ∀ m, (∀ j, j ≤ m → I (f (i + 1 + j)) = true) → Rch es I [(f i : Int)] (f (i + 1 + m))
  | 0, h => Rch.one (by simp) (he i) (h 0 (Nat.le_refl _))
  | m + 1, h => Rch.more (rch_run he m fun j hj => h j (by omega)) (he (i + 1 + m)) (h (m + 1) (Nat.le_refl _))
end Go.Proofs.YtokcinhopajniaaGreatDoor
