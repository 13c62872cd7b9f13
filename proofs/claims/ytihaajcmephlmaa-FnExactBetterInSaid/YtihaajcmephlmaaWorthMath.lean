/-
  Which of two vertices is heavier; which worths are worths of a small game; how many replies there are. No program text.
-/
import Derived.Test.YtihaajcmephlmaaPo02
import Derived.Test.YtihaajcmephlmaaPo04
namespace Go.Proofs.Ytihaajcmephlmaa
section

/-- How two numbers compare. -/
def cmpI (x y : Int) : Int := if x < y then -1 else if y < x then 1 else 0
theorem cmpI_cases (x y : Int) : (x < y ∧ cmpI x y = -1) ∨ (y < x ∧ cmpI x y = 1) ∨ (x = y ∧ cmpI x y = 0) := by
  unfold cmpI
  by_cases h1 : x < y
  · exact .inl ⟨h1, if_pos h1⟩
  · by_cases h2 : y < x
    · exact .inr (.inl ⟨h2, by rw [if_neg h1, if_pos h2]⟩)
    · exact .inr (.inr ⟨by omega, by rw [if_neg h1, if_neg h2]⟩)
/-- How two vertices compare by weight. -/
def weighI (P : List Int) (x y : Nat) : Int := if cmpI (nth P x) (nth P y) = 0 then cmpI x y else cmpI (nth P x) (nth P y)
/-- Is x heavier than y? -/
def heavyB (P : List Int) (x y : Nat) : Bool := decide (nth P y < nth P x ∨ (nth P x = nth P y ∧ y < x))
theorem heavyB_iff {P : List Int} {x y : Nat} : heavyB P x y = true ↔ nth P y < nth P x ∨ (nth P x = nth P y ∧ y < x) := by unfold heavyB; rw [decide_eq_true_eq]
theorem heavyB_no {P : List Int} {x y : Nat} : heavyB P x y = false ↔ ¬ (nth P y < nth P x ∨ (nth P x = nth P y ∧ y < x)) := by unfold heavyB; rw [decide_eq_false_iff_not]
theorem weigh_cases (P : List Int) (x y : Nat) : (heavyB P y x = true ∧ weighI P x y = -1) ∨ (heavyB P x y = true ∧ weighI P x y = 1) ∨ (x = y ∧ weighI P x y = 0) := by
  rw [heavyB_iff, heavyB_iff]
  unfold weighI
  rcases cmpI_cases (nth P x) (nth P y) with ⟨h1, h2⟩ | ⟨h1, h2⟩ | ⟨h1, h2⟩
  · rw [h2, if_neg (by decide)]; exact .inl ⟨.inl h1, rfl⟩
  · rw [h2, if_neg (by decide)]; exact .inr (.inl ⟨.inl h1, rfl⟩)
  · rw [h2, if_pos rfl]
    rcases cmpI_cases (x : Int) (y : Int) with ⟨h3, h4⟩ | ⟨h3, h4⟩ | ⟨h3, h4⟩
    · rw [h4]; exact .inl ⟨.inr ⟨h1.symm, by omega⟩, rfl⟩
    · rw [h4]; exact .inr (.inl ⟨.inr ⟨h1, by omega⟩, rfl⟩)
    · rw [h4]; exact .inr (.inr ⟨by omega, rfl⟩)
theorem heavy_not {P : List Int} {x y : Nat} (h : heavyB P x y = true) : heavyB P y x = false := by
  rw [heavyB_iff] at h
  rw [heavyB_no]
  omega
theorem heavy_self (P : List Int) (x : Nat) : heavyB P x x = false := by rw [heavyB_no]; omega
theorem weigh_pos {P : List Int} {x y : Nat} : 0 < weighI P x y ↔ heavyB P x y = true := by
  rcases weigh_cases P x y with ⟨h1, h2⟩ | ⟨h1, h2⟩ | ⟨h1, h2⟩
  · rw [h2, heavy_not h1]; simp
  · rw [h2, h1]; simp
  · subst h1; rw [h2, heavy_self]; simp
theorem weigh_neg {P : List Int} {x y : Nat} : weighI P x y < 0 ↔ heavyB P y x = true := by
  rcases weigh_cases P x y with ⟨h1, h2⟩ | ⟨h1, h2⟩ | ⟨h1, h2⟩
  · rw [h2, h1]; simp
  · rw [h2, heavy_not h1]; simp
  · subst h1; rw [h2, heavy_self]; simp
theorem heavy_trans {P : List Int} {x y z : Nat} (h1 : heavyB P x y = true) (h2 : heavyB P y z = true) : heavyB P x z = true := by
  rw [heavyB_iff] at *
  omega
/-- What HeavierIn answers. -/
noncomputable def heavierB (O : List Int) (zss : List (List Int)) (P : List Int) (x y : Int) : Bool := smallB O zss P && (thereB O.length x && (thereB O.length y && heavyB P x.toNat y.toNat))
theorem heavier_small {O P : List Int} {zss : List (List Int)} {x y : Int} (h : smallB O zss P = false) : heavierB O zss P x y = false := by unfold heavierB; rw [h]; rfl
theorem heavier_x {O P : List Int} {zss : List (List Int)} {x y : Int} (h : thereB O.length x = false) : heavierB O zss P x y = false := by unfold heavierB; rw [h]; simp
theorem heavier_y {O P : List Int} {zss : List (List Int)} {x y : Int} (h : thereB O.length y = false) : heavierB O zss P x y = false := by unfold heavierB; rw [h]; simp
theorem heavier_yes {O P : List Int} {zss : List (List Int)} {x y : Nat} (h : smallB O zss P = true) (hx : thereB O.length x = true) (hy : thereB O.length y = true) : heavierB O zss P x y = heavyB P x y := by
  unfold heavierB
  rw [h, hx, hy]
  simp
theorem thereB_iff {n : Nat} {x : Int} : thereB n x = true ↔ 0 ≤ x ∧ x < n := by unfold thereB; rw [decide_eq_true_eq]
theorem small_len {O P : List Int} {zss : List (List Int)} (h : smallB O zss P = true) : P.length = O.length ∧ P.length ≤ 12 := by
  obtain ⟨h1, h2⟩ := smallB_iff.1 h
  exact ⟨(parityB_iff.1 h2).2.1, h1⟩

/-- How many full plans player 1 has, over the first k vertices. -/
def repK (O : List Int) (zss : List (List Int)) : Nat → Int
  | 0 => 1
  | k + 1 => if nth O k = 1 then repK O zss k * ((row zss k).length : Int) else repK O zss k
theorem repK_yes {O : List Int} {zss : List (List Int)} {k : Nat} (h : nth O k = 1) : repK O zss (k + 1) = repK O zss k * ((row zss k).length : Int) := by rw [repK, if_pos h]
theorem repK_no {O : List Int} {zss : List (List Int)} {k : Nat} (h : ¬ nth O k = 1) : repK O zss (k + 1) = repK O zss k := by rw [repK, if_neg h]
theorem repK_in {O : List Int} {zss : List (List Int)} (h : ArenaP O zss) : ∀ {k : Nat}, k ≤ O.length → 1 ≤ repK O zss k ∧ repK O zss k ≤ 16 ^ k
  | 0, _ => ⟨Int.le_refl _, Int.le_refl _⟩
  | k + 1, hk => by
    have h1 := repK_in h (k := k) (by omega)
    have h2 := h.2.2.2 k (by omega)
    have h3 : 1 ≤ ((row zss k).length : Int) ∧ ((row zss k).length : Int) ≤ 16 := by have := h2.2; omega
    rw [Int.pow_succ]
    by_cases e : nth O k = 1
    · rw [repK_yes e]
      have h4 : repK O zss k * ((row zss k).length : Int) ≤ 16 ^ k * 16 := Int.mul_le_mul h1.2 h3.2 (by omega) (by omega)
      have h5 : 1 * 1 ≤ repK O zss k * ((row zss k).length : Int) := Int.mul_le_mul h1.1 h3.1 (by omega) (by omega)
      omega
    · rw [repK_no e]
      omega
theorem repK_mono {O : List Int} {zss : List (List Int)} (h : ArenaP O zss) {j : Nat} : ∀ {k : Nat}, j ≤ k → k ≤ O.length → repK O zss j ≤ repK O zss k
  | 0, hj, _ => by rw [show j = 0 by omega]; exact Int.le_refl _
  | k + 1, hj, hk => by
    by_cases e : j = k + 1
    · rw [e]; exact Int.le_refl _
    · have h1 := repK_mono h (j := j) (k := k) (by omega) (by omega)
      have h0 := repK_in h (k := k) (by omega)
      have h2 := h.2.2.2 k (by omega)
      have h3 : 1 ≤ ((row zss k).length : Int) := by have := h2.2; omega
      by_cases e2 : nth O k = 1
      · rw [repK_yes e2]
        have h4 : repK O zss k * 1 ≤ repK O zss k * ((row zss k).length : Int) := Int.mul_le_mul_of_nonneg_left h3 (by omega)
        omega
      · rw [repK_no e2]; exact h1
theorem rep_fits {O : List Int} {zss : List (List Int)} (h : ArenaP O zss) (h12 : O.length ≤ 12) {k : Nat} (hk : k ≤ O.length) : 1 ≤ repK O zss k ∧ repK O zss k ≤ 281474976710656 := by
  have h1 := repK_in h hk
  have h2 : (16 : Int) ^ k ≤ 16 ^ 12 := by
    have := Nat.pow_le_pow_right (n := 16) (by decide) (show k ≤ 12 by omega)
    have h3 : ((16 ^ k : Nat) : Int) ≤ ((16 ^ 12 : Nat) : Int) := by omega
    simpa using h3
  exact ⟨h1.1, Int.le_trans h1.2 (Int.le_trans h2 (by decide))⟩
/-- What RepliesIn answers. -/
noncomputable def repliesV (O : List Int) (zss : List (List Int)) (P : List Int) : Int := if smallB O zss P = true ∧ repK O zss O.length ≤ 4096 then repK O zss O.length else -1
theorem replies_small {O P : List Int} {zss : List (List Int)} (h : smallB O zss P = false) : repliesV O zss P = -1 := by unfold repliesV; rw [if_neg (by rw [h]; simp)]
theorem replies_many {O P : List Int} {zss : List (List Int)} (h : ¬ repK O zss O.length ≤ 4096) : repliesV O zss P = -1 := by unfold repliesV; rw [if_neg (fun hh => h hh.2)]
theorem replies_yes {O P : List Int} {zss : List (List Int)} (h : smallB O zss P = true) (h2 : repK O zss O.length ≤ 4096) : repliesV O zss P = repK O zss O.length := by unfold repliesV; rw [if_pos ⟨h, h2⟩]

/-- Are the first k of a worth's vertices heavier than its head? -/
def overB (P V : List Int) (h : Int) (k : Nat) : Bool := (List.range k).all fun i => heavyB P (nth V i).toNat h.toNat
theorem overB_iff {P V : List Int} {h : Int} {k : Nat} : overB P V h k = true ↔ ∀ i, i < k → heavyB P (nth V i).toNat h.toNat = true := by
  unfold overB
  rw [List.all_eq_true]
  exact ⟨fun hh i hi => hh i (List.mem_range.2 hi), fun hh i hi => hh i (List.mem_range.1 hi)⟩
theorem overB_bad {P V : List Int} {h : Int} {k i : Nat} (hi : i < k) (hb : heavyB P (nth V i).toNat h.toNat = false) : overB P V h k = false := by
  cases ho : overB P V h k with
  | false => rfl
  | true => rw [overB_iff.1 ho i hi] at hb; cases hb
/-- What WorthOk answers. -/
noncomputable def worthB (O : List Int) (zss : List (List Int)) (P : List Int) (h : Int) (V : List Int) (y : Int) : Bool := smallB O zss P && (thereB O.length h && (setB O.length V && (decide (0 ≤ y ∧ y ≤ 12) && overB P V h V.length)))
theorem worth_iff {O P V : List Int} {zss : List (List Int)} {h y : Int} : worthB O zss P h V y = true ↔ smallB O zss P = true ∧ thereB O.length h = true ∧ setB O.length V = true ∧ (0 ≤ y ∧ y ≤ 12) ∧ overB P V h V.length = true := by
  unfold worthB
  simp only [Bool.and_eq_true, decide_eq_true_eq]
theorem worth_bad {O P V : List Int} {zss : List (List Int)} {h y : Int} (hb : ¬ (smallB O zss P = true ∧ thereB O.length h = true ∧ setB O.length V = true ∧ (0 ≤ y ∧ y ≤ 12) ∧ overB P V h V.length = true)) : worthB O zss P h V y = false := by
  cases hw : worthB O zss P h V y with
  | false => rfl
  | true => exact absurd (worth_iff.1 hw) hb
end
end Go.Proofs.Ytihaajcmephlmaa
