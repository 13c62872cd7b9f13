/-
  Who wins a play. No program text.
-/
import Derived.Test.YtokcinhopajniaaGreatDoorLassoMath
import Derived.Test.YtokcinhopajniaaGreatDoorParity1
namespace Go.Proofs.YtokcinhopajniaaGreatDoor
open Go.RowKit

/-- The greatest priority of the first k of In, or 0. -/
def top0 (P In : List Int) : Nat → Int
  | 0 => 0
  | k + 1 => if top0 P In k < nth P (nth In k).toNat then nth P (nth In k).toNat else top0 P In k
theorem top0_k {P In : List Int} : ∀ k, (∀ j, j < k → 0 ≤ nth P (nth In j).toNat) → 0 ≤ top0 P In k ∧ (0 < k → top0 P In k = topK P In k)
  | 0, _ => ⟨Int.le_refl _, fun h => absurd h (Nat.not_lt_zero _)⟩
  | k + 1, h => by
    obtain ⟨h0, h1⟩ := top0_k k fun j hj => h j (by omega)
    have hk := h k (by omega)
    rw [top0, topK]
    by_cases e : k = 0
    · subst e
      rw [top0, topK]
      refine ⟨by split <;> omega, fun _ => ?_⟩
      split <;> split <;> omega
    · rw [h1 (by omega)]
      rw [h1 (by omega)] at h0
      exact ⟨by split <;> omega, fun _ => rfl⟩
/-- Who wins the play. -/
noncomputable def wonV (O : List Int) (zss : List (List Int)) (P X Y : List Int) : Int := if parityB O zss P = true ∧ lassoB O zss X Y = true then top0 P Y Y.length % 2 else -1
theorem whole_nth {X Y : List Int} {j : Nat} (hj : j < Y.length) : nth (wholeP X Y) (X.length + j) = nth Y j := by
  have h : (X ++ Y ++ [nth Y 0])[X.length + j]? = Y[j]? := by
    rw [List.getElem?_append_left (by simp; omega), List.getElem?_append_right (by omega)]
    congr 1; omega
  unfold wholeP
  unfold nth List.getD at *
  rw [h]
theorem lasso_loop {O X Y : List Int} {zss : List (List Int)} (h : lassoB O zss X Y = true) : ∀ x ∈ Y, ∃ u : Nat, x = (u : Int) ∧ u < O.length := fun x hx => by
  obtain ⟨j, hj, rfl⟩ := mem_nth.1 hx
  have hs := ((lassoB_iff.1 h).2.2.2.2 (X.length + j) (by rw [wholeP_len]; omega)).1
  rw [whole_nth hj] at hs
  exact there_nat hs

end Go.Proofs.YtokcinhopajniaaGreatDoor
