/-
  Contracts: two slices alike (the model's l1Same, slices.Equal, slices.EqualFunc over it), SameArena and its model.
-/
import Derived.Test.YtjnbpllalbfeiaaSpecArena
namespace Go.Proofs.Ytjnbpllalbfeiaa
open Go.RowKit

theorem rows_ext {xs ys : List (List Int)} (hl : xs.length = ys.length) (h : ∀ i, i < xs.length → row xs i = row ys i) : xs = ys := by
  apply List.ext_getElem hl
  intro i h1 h2
  have := h i h1
  rwa [row_eq h1, row_eq h2] at this

open Classical in
/-- The value of SameArena. -/
noncomputable def sameB (O : List Int) (zss : List (List Int)) (O' : List Int) (zss' : List (List Int)) : Bool := decide (ArenaP O zss ∧ ArenaP O' zss' ∧ O = O' ∧ zss = zss')

theorem sameB_no {O : List Int} {zss : List (List Int)} {O' : List Int} {zss' : List (List Int)} (h : ¬ (ArenaP O zss ∧ ArenaP O' zss' ∧ O = O' ∧ zss = zss')) : sameB O zss O' zss' = false := by simp [sameB]; simpa using h
theorem sameB_yes {O : List Int} {zss : List (List Int)} {O' : List Int} {zss' : List (List Int)} (h : ArenaP O zss ∧ ArenaP O' zss' ∧ O = O' ∧ zss = zss') : sameB O zss O' zss' = true := by simp only [sameB, decide_eq_true_eq]; exact h

end Go.Proofs.Ytjnbpllalbfeiaa
