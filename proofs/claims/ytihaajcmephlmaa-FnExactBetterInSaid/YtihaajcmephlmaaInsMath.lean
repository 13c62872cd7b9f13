/-
  Insertion by weight: what stays true, and the ranks at the end. No program text.
-/
import Derived.Test.YtihaajcmephlmaaBetterMath
namespace Go.Proofs.Ytihaajcmephlmaa
section

/-- Places hold different vertices. -/
structure SortP (n : Nat) (F : Nat → Nat) : Prop where
  rng : ∀ a, a < n → F a < n
  inj : ∀ a b, a < n → b < n → F a = F b → a = b
/-- The first i places rise by weight. -/
def UpP (P : List Int) (F : Nat → Nat) (i : Nat) : Prop := ∀ a b, a < b → b < i → heavyB P (F b) (F a) = true
/-- The first i + 1 places rise but for place j, whose vertex is less heavy than those behind it. -/
structure InsP (P : List Int) (F : Nat → Nat) (i j : Nat) : Prop where
  rise : ∀ a b, a < b → b ≤ i → a ≠ j → b ≠ j → heavyB P (F b) (F a) = true
  back : ∀ b, j < b → b ≤ i → heavyB P (F b) (F j) = true
def swapN (F : Nat → Nat) (j : Nat) : Nat → Nat := fun x => if x = j - 1 then F j else if x = j then F (j - 1) else F x
theorem ins_start {P : List Int} {F : Nat → Nat} {i : Nat} (h : UpP P F i) : InsP P F i i :=
  ⟨fun a b hab hb _ hn => h a b hab (by omega), fun b h1 h2 => by omega⟩
theorem ins_zero {P : List Int} {F : Nat → Nat} {i : Nat} (h : InsP P F i 0) : UpP P F (i + 1) := fun a b hab hb => by
  by_cases e : a = 0
  · subst e; exact h.back b hab (by omega)
  · exact h.rise a b hab (by omega) e (by omega)
theorem ins_stop {P : List Int} {F : Nat → Nat} {i j : Nat} (h : InsP P F i j) (hj : 0 < j) (hji : j ≤ i) (hh : heavyB P (F j) (F (j - 1)) = true) : UpP P F (i + 1) := fun a b hab hb => by
  by_cases e : a = j
  · subst e; exact h.back b hab (by omega)
  · by_cases e2 : b = j
    · subst e2
      by_cases e3 : a = b - 1
      · rw [e3]; exact hh
      · exact heavy_trans hh (h.rise a (b - 1) (by omega) (by omega) e (by omega))
    · exact h.rise a b hab (by omega) e e2
theorem ins_swap {P : List Int} {F : Nat → Nat} {i j : Nat} (h : InsP P F i j) (hj : 0 < j) (hji : j ≤ i) (hh : heavyB P (F (j - 1)) (F j) = true) : InsP P (swapN F j) i (j - 1) := by
  refine ⟨fun a b hab hb ha hb' => ?_, fun b h1 h2 => ?_⟩
  · unfold swapN
    rw [if_neg ha, if_neg hb']
    by_cases e : a = j
    · subst e
      rw [if_pos rfl, if_neg (by omega)]
      exact h.rise (a - 1) b (by omega) hb (by omega) (by omega)
    · rw [if_neg e]
      by_cases e2 : b = j
      · subst e2
        rw [if_pos rfl]
        exact h.rise a (b - 1) (by omega) (by omega) e (by omega)
      · rw [if_neg e2]
        exact h.rise a b hab hb e e2
  · unfold swapN
    rw [if_pos rfl, if_neg (by omega)]
    by_cases e : b = j
    · rw [if_pos e]; exact hh
    · rw [if_neg e]; exact h.back b (by omega) h2
theorem sort_swap {n : Nat} {F : Nat → Nat} {j : Nat} (h : SortP n F) (hj : 0 < j) (hjn : j < n) : SortP n (swapN F j) := by
  refine ⟨fun a ha => ?_, fun a b ha hb he => ?_⟩
  · unfold swapN
    split
    · exact h.rng _ hjn
    · split
      · exact h.rng _ (by omega)
      · exact h.rng _ ha
  · unfold swapN at he
    by_cases a1 : a = j - 1 <;> by_cases a2 : a = j <;> by_cases b1 : b = j - 1 <;> by_cases b2 : b = j <;> simp only [a1, a2, b1, b2, if_pos, if_neg, not_false_eq_true] at he <;> try omega
    all_goals first
      | (have := h.inj _ _ (by omega) (by omega) he; omega)
      | (split at he <;> have := h.inj _ _ (by omega) (by omega) he <;> omega)
theorem sort_next {P : List Int} {n : Nat} {F : Nat → Nat} {j : Nat} (h : SortP n F) (hj : 0 < j) (hjn : j < n) (hh : ¬ weighI P (F j) (F (j - 1)) < 0) : heavyB P (F j) (F (j - 1)) = true := by
  rcases heavy_total (P := P) (u := F j) (v := F (j - 1)) (fun e => by have := h.inj _ _ hjn (by omega) e; omega) with h1 | h1
  · exact h1
  · exact absurd (weigh_neg.2 h1) hh
theorem sorted_rank {P : List Int} {F : Nat → Nat} (h : SortP P.length F) (hu : UpP P F P.length) : ∀ i, i < P.length → rankL P (F i) = i := by
  have hlo : ∀ i, i < P.length → i ≤ rankL P (F i) := fun i => by
    induction i with
    | zero => intro _; exact Nat.zero_le _
    | succ i ih =>
      intro hi
      have h1 := ih (by omega)
      have h2 := rank_lt (h.rng i (by omega)) (hu i (i + 1) (by omega) hi)
      omega
  have hhi : ∀ d i, i + d + 1 = P.length → rankL P (F i) ≤ i := fun d => by
    induction d with
    | zero => intro i hi; have := rank_in (h.rng i (by omega)); omega
    | succ d ih =>
      intro i hi
      have h1 := ih (i + 1) (by omega)
      have h2 := rank_lt (h.rng i (by omega)) (hu i (i + 1) (by omega) (by omega))
      omega
  intro i hi
  have h1 := hlo i hi
  have h2 := hhi (P.length - i - 1) i (by omega)
  omega
theorem sorted_all {P : List Int} {F : Nat → Nat} (h : SortP P.length F) (hu : UpP P F P.length) {v : Nat} (hv : v < P.length) : F (rankL P v) = v := by
  have h1 := rank_in hv
  exact rank_inj (h.rng _ h1) hv (sorted_rank h hu _ h1)
end
end Go.Proofs.Ytihaajcmephlmaa
