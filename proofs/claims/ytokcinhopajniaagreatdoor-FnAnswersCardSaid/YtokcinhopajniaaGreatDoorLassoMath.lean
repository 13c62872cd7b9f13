/-
  A play's steps. No program text.
-/
import Derived.Test.YtokcinhopajniaaGreatDoorPlanSpec
import Derived.Test.YtokcinhopajniaaGreatDoorLasso
namespace Go.Proofs.YtokcinhopajniaaGreatDoor
open Go.RowKit

/-- A play's vertices, the loop's first once more at the end. -/
def wholeP (X Y : List Int) : List Int := X ++ Y ++ [nth Y 0]
theorem wholeP_len (X Y : List Int) : (wholeP X Y).length = X.length + Y.length + 1 := by unfold wholeP; simp; omega
theorem wholeP_fits {X Y : List Int} (hX : ∀ k, k < X.length → Fits (nth X k)) (hY : ∀ k, k < Y.length → Fits (nth Y k)) (h0 : 0 < Y.length) : ∀ k, k < (wholeP X Y).length → Fits (nth (wholeP X Y) k) := by
  have h1 : ∀ x ∈ X, Fits x := fun x hx => by obtain ⟨i, hi, rfl⟩ := mem_nth.1 hx; exact hX i hi
  have h2 : ∀ x ∈ Y, Fits x := fun x hx => by obtain ⟨i, hi, rfl⟩ := mem_nth.1 hx; exact hY i hi
  intro k hk
  have hm := nth_mem hk
  unfold wholeP at hm ⊢
  rcases List.mem_append.1 hm with h | h
  · rcases List.mem_append.1 h with h | h
    · exact h1 _ h
    · exact h2 _ h
  · rw [List.mem_singleton.1 h]; exact hY 0 h0
/-- One step of a play. -/
def StepAt (O : List Int) (zss : List (List Int)) (L : List Int) (i : Nat) : Prop :=
  thereB O.length (nth L i) = true ∧ (0 < i → nth L i ∈ row zss (nth L (i - 1)).toNat)
def LassoP (O : List Int) (zss : List (List Int)) (X Y : List Int) : Prop :=
  ArenaP O zss ∧ X.length ≤ 256 ∧ 1 ≤ Y.length ∧ Y.length ≤ 256 ∧ ∀ i, i < (wholeP X Y).length → StepAt O zss (wholeP X Y) i
noncomputable def lassoB (O : List Int) (zss : List (List Int)) (X Y : List Int) : Bool := @decide (LassoP O zss X Y) (Classical.propDecidable _)
theorem lassoB_iff {O X Y : List Int} {zss : List (List Int)} : lassoB O zss X Y = true ↔ LassoP O zss X Y := by
  unfold lassoB; rw [@decide_eq_true_eq _ (Classical.propDecidable _)]
theorem lassoB_no {O X Y : List Int} {zss : List (List Int)} (h : ¬ LassoP O zss X Y) : lassoB O zss X Y = false := by
  unfold lassoB; simp [h]

/-- Does the list walk along the arena's edges? -/
noncomputable def pathB (O : List Int) (zss : List (List Int)) (L : List Int) : Bool := @decide (∀ i, i < L.length → StepAt O zss L i) (Classical.propDecidable _)
theorem pathB_iff {O L : List Int} {zss : List (List Int)} : pathB O zss L = true ↔ ∀ i, i < L.length → StepAt O zss L i := by
  unfold pathB; rw [@decide_eq_true_eq _ (Classical.propDecidable _)]
theorem pathB_no {O L : List Int} {zss : List (List Int)} (h : ¬ ∀ i, i < L.length → StepAt O zss L i) : pathB O zss L = false := by
  unfold pathB; exact @decide_eq_false _ (Classical.propDecidable _) h

/-- A play in memory whose loop's slice is no longer than its room. -/
def LassoC (w : World) (v : Value) (X Y : List Int) : Prop :=
  ∃ ax ay cx cy, v = .agg #[.slice ax X.length cx, .slice ay Y.length cy] ∧ IntsAt w ax X ∧ IntsAt w ay Y ∧ Y.length ≤ cy
theorem LassoC.at {w : World} {v : Value} {X Y : List Int} (h : LassoC w v X Y) : LassoAt w v X Y := by
  obtain ⟨ax, ay, cx, cy, hv, h1, h2, _⟩ := h
  exact ⟨ax, ay, cx, cy, hv, h1, h2⟩
theorem LassoC.below {w w' : World} {v : Value} {X Y : List Int} (h : LassoC w v X Y) (hb : Below w.heap.size w w') : LassoC w' v X Y := by
  obtain ⟨ax, ay, cx, cy, hv, h1, h2, h3⟩ := h
  exact ⟨ax, ay, cx, cy, hv, h1.below hb, h2.below hb, h3⟩
theorem OwnLasso.atC {w : World} {B D : Nat} {v : Value} {X Y : List Int} (h : OwnLasso w B D v X Y) : LassoC w v X Y := by
  obtain ⟨vx, vy, rfl, h1, h2, _⟩ := h
  obtain ⟨a, c, rfl, hi, _⟩ := h1.shape
  obtain ⟨b, d, rfl, hj, _⟩ := h2.shape
  refine ⟨_, _, _, _, rfl, hi, hj, ?_⟩
  rcases h2.own.2 with ⟨hv, h0⟩ | ⟨g, cap, cur, hv, _, _, hc, _⟩
  · simp only [Value.slice.injEq] at hv; omega
  · simp only [Value.slice.injEq] at hv; omega

end Go.Proofs.YtokcinhopajniaaGreatDoor
