/-
  Gains by rank: the sum of the gains of a set tells the heaviest vertex in which two sets differ. No program text.
-/
import Derived.Test.YtihaajcmephlmaaWorthMath
namespace Go.Proofs.Ytihaajcmephlmaa
section

/-- How many of the first k vertices are less heavy than v. -/
def rankK (P : List Int) (v : Nat) : Nat → Nat
  | 0 => 0
  | k + 1 => rankK P v k + if heavyB P v k = true then 1 else 0
theorem rankK_lt {P : List Int} {u v : Nat} (h : heavyB P v u = true) : ∀ k, rankK P u k + (if u < k then 1 else 0) ≤ rankK P v k
  | 0 => by simp [rankK]
  | k + 1 => by
    have ih := rankK_lt h k
    rw [rankK, rankK]
    by_cases e : u = k
    · subst e
      rw [heavy_self, h, if_neg (by decide), if_pos rfl, if_pos (by omega)]
      rw [if_neg (Nat.lt_irrefl _)] at ih
      omega
    · by_cases h2 : heavyB P u k = true
      · rw [if_pos h2, if_pos (heavy_trans h h2)]
        by_cases h3 : u < k
        · rw [if_pos h3] at ih; rw [if_pos (by omega)]; omega
        · rw [if_neg h3] at ih; rw [if_neg (by omega)]; omega
      · rw [if_neg h2]
        by_cases h3 : u < k
        · rw [if_pos h3] at ih; rw [if_pos (by omega)]; split <;> omega
        · rw [if_neg h3] at ih; rw [if_neg (by omega)]; split <;> omega
theorem rankK_le (P : List Int) (v : Nat) : ∀ k, rankK P v k ≤ k
  | 0 => Nat.le_refl _
  | k + 1 => by
    have := rankK_le P v k
    rw [rankK]
    split <;> omega
/-- The rank of a vertex. -/
def rankL (P : List Int) (v : Nat) : Nat := rankK P v P.length
theorem rank_lt {P : List Int} {u v : Nat} (hu : u < P.length) (h : heavyB P v u = true) : rankL P u < rankL P v := by
  have := rankK_lt h P.length
  rw [if_pos hu] at this
  unfold rankL
  omega
theorem heavy_total {P : List Int} {u v : Nat} (h : u ≠ v) : heavyB P u v = true ∨ heavyB P v u = true := by
  rw [heavyB_iff, heavyB_iff]
  omega
theorem rank_iff {P : List Int} {u v : Nat} (hu : u < P.length) (hv : v < P.length) : rankL P u < rankL P v ↔ heavyB P v u = true := by
  refine ⟨fun h => ?_, rank_lt hu⟩
  by_cases e : u = v
  · subst e; omega
  · rcases heavy_total e with h1 | h1
    · have := rank_lt hv h1; omega
    · exact h1
theorem rank_inj {P : List Int} {u v : Nat} (hu : u < P.length) (hv : v < P.length) (h : rankL P u = rankL P v) : u = v := by
  refine Classical.byContradiction fun e => ?_
  rcases heavy_total e with h1 | h1
  · have := rank_lt hv h1; omega
  · have := rank_lt hu h1; omega
theorem rank_in {P : List Int} {v : Nat} (hv : v < P.length) : rankL P v < P.length := by
  have h : ∀ k, v < k → rankK P v k < k := fun k hk => by
    induction k with
    | zero => omega
    | succ k ih =>
      rw [rankK]
      by_cases e : v = k
      · subst e
        rw [heavy_self, if_neg (by decide)]
        have := rankK_le P v v
        omega
      · have := ih (by omega)
        split <;> omega
  exact h _ hv

/-- What player 0 gains by a vertex. -/
def gainI (P : List Int) (v : Nat) : Int := if nth P v % 2 = 1 then -(2 ^ rankL P v) else 2 ^ rankL P v
theorem pow_pos2 (n : Nat) : (0 : Int) < 2 ^ n := by
  induction n with
  | zero => decide
  | succ n ih => rw [Int.pow_succ]; omega
theorem gain_abs (P : List Int) (v : Nat) : gainI P v = 2 ^ rankL P v ∨ gainI P v = -(2 ^ rankL P v) := by
  unfold gainI
  split
  · exact .inr rfl
  · exact .inl rfl
theorem pow_lt2 {i j : Nat} (h : i < j) : (2 : Int) ^ i < 2 ^ j := by
  have h1 : ∀ d, (2 : Int) ^ i < 2 ^ (i + d + 1) := fun d => by
    induction d with
    | zero => have := pow_pos2 i; rw [Nat.add_zero, Int.pow_succ]; omega
    | succ d ih => have := pow_pos2 (i + d + 1); rw [show i + (d + 1) + 1 = (i + d + 1) + 1 by omega, Int.pow_succ]; omega
  have := h1 (j - i - 1)
  rw [show i + (j - i - 1) + 1 = j by omega] at this
  exact this
/-- A sum of gains with factors, over the first k vertices. -/
def sumD (P : List Int) (d : Nat → Int) : Nat → Int
  | 0 => 0
  | k + 1 => sumD P d k + d k * gainI P k
theorem sumD_add {P : List Int} {d e f : Nat → Int} : ∀ {k : Nat}, (∀ v, v < k → d v = e v + f v) → sumD P d k = sumD P e k + sumD P f k
  | 0, _ => rfl
  | k + 1, h => by
    rw [sumD, sumD, sumD, sumD_add (fun v hv => h v (by omega)), h k (by omega), Int.add_mul]
    omega
theorem sumD_zero {P : List Int} {d : Nat → Int} : ∀ {k : Nat}, (∀ v, v < k → d v = 0) → sumD P d k = 0
  | 0, _ => rfl
  | k + 1, h => by rw [sumD, sumD_zero (fun v hv => h v (by omega)), h k (by omega)]; simp
theorem sumD_one {P : List Int} {d : Nat → Int} {x : Nat} : ∀ {k : Nat}, x < k → (∀ v, v < k → v ≠ x → d v = 0) → sumD P d k = d x * gainI P x
  | 0, h, _ => by omega
  | k + 1, h, hd => by
    rw [sumD]
    by_cases e : x = k
    · subst e
      rw [sumD_zero (fun v hv => hd v (by omega) (by omega))]
      omega
    · rw [sumD_one (by omega) (fun v hv => hd v (by omega)), hd k (by omega) (fun h => e h.symm)]
      simp
/-- Below a rank the gains sum up to less than that of the rank. -/
theorem sumD_small {P : List Int} : ∀ (r : Nat) (d : Nat → Int), (∀ v, v < P.length → -1 ≤ d v ∧ d v ≤ 1) → (∀ v, v < P.length → d v ≠ 0 → rankL P v < r) → -(2 ^ r) < sumD P d P.length ∧ sumD P d P.length < 2 ^ r
  | 0, d, _, h => by
    rw [sumD_zero (fun v hv => Classical.byContradiction fun hn => by have := h v hv hn; omega)]
    exact ⟨by decide, by decide⟩
  | r + 1, d, h1, h2 => by
    have ih := sumD_small r (fun v => if rankL P v = r then 0 else d v) (fun v hv => by
      show -1 ≤ (if rankL P v = r then 0 else d v) ∧ (if rankL P v = r then 0 else d v) ≤ 1
      split
      · omega
      · exact h1 v hv) (fun v hv hn => by
      by_cases e : rankL P v = r
      · exact absurd (if_pos e) hn
      · have := h2 v hv (fun hd => hn (by show (if rankL P v = r then 0 else d v) = 0; rw [if_neg e, hd]))
        omega)
    have hs := sumD_add (P := P) (d := d) (e := fun v => if rankL P v = r then 0 else d v) (f := fun v => if rankL P v = r then d v else 0) (k := P.length) (fun v _ => by
      show d v = (if rankL P v = r then 0 else d v) + (if rankL P v = r then d v else 0)
      split <;> omega)
    have h3 : -(2 ^ r) ≤ sumD P (fun v => if rankL P v = r then d v else 0) P.length ∧ sumD P (fun v => if rankL P v = r then d v else 0) P.length ≤ 2 ^ r := by
      have h0 := pow_pos2 r
      by_cases hx : ∃ x, x < P.length ∧ rankL P x = r
      · obtain ⟨x, hx, hr⟩ := hx
        rw [sumD_one (x := x) hx (fun v hv hn => if_neg (fun e => hn (rank_inj hv hx (by rw [e, hr]))))]
        show -(2 ^ r) ≤ (if rankL P x = r then d x else 0) * gainI P x ∧ (if rankL P x = r then d x else 0) * gainI P x ≤ 2 ^ r
        rw [if_pos hr]
        have h4 := h1 x hx
        have h5 : d x = -1 ∨ d x = 0 ∨ d x = 1 := by omega
        have h6 := gain_abs P x
        rw [hr] at h6
        rcases h5 with h5 | h5 | h5 <;> rw [h5] <;> rcases h6 with h6 | h6 <;> rw [h6] <;> omega
      · rw [sumD_zero (fun v hv => if_neg (fun e => hx ⟨v, hv, e⟩))]
        omega
    have h0 := pow_pos2 r
    rw [Int.pow_succ]
    omega
/-- The heaviest vertex with a factor decides. -/
theorem sumD_top {P : List Int} {d : Nat → Int} {x : Nat} (h1 : ∀ v, v < P.length → -1 ≤ d v ∧ d v ≤ 1) (hx : x < P.length) (hd : d x ≠ 0) (ht : ∀ v, v < P.length → d v ≠ 0 → v ≠ x → heavyB P x v = true) :
    (0 < sumD P d P.length ↔ 0 < d x * gainI P x) ∧ sumD P d P.length ≠ 0 := by
  have hs := sumD_add (P := P) (d := d) (e := fun v => if v = x then 0 else d v) (f := fun v => if v = x then d v else 0) (k := P.length) (fun v _ => by
    show d v = (if v = x then 0 else d v) + (if v = x then d v else 0)
    split <;> omega)
  have h2 := sumD_small (P := P) (rankL P x) (fun v => if v = x then 0 else d v) (fun v hv => by
    show -1 ≤ (if v = x then 0 else d v) ∧ (if v = x then 0 else d v) ≤ 1
    split
    · omega
    · exact h1 v hv) (fun v hv hn => by
    by_cases e : v = x
    · exact absurd (if_pos e) hn
    · exact rank_lt hv (ht v hv (fun hd => hn (by show (if v = x then 0 else d v) = 0; rw [if_neg e, hd])) e))
  have h3 : sumD P (fun v => if v = x then d v else 0) P.length = d x * gainI P x := by
    rw [sumD_one (x := x) hx (fun v hv hn => if_neg hn)]
    show (if x = x then d x else 0) * gainI P x = _
    rw [if_pos rfl]
  have h4 := h1 x hx
  have h5 : d x = -1 ∨ d x = 1 := by omega
  have h6 := gain_abs P x
  have h0 := pow_pos2 (rankL P x)
  rw [hs, h3]
  rcases h5 with h5 | h5 <;> rw [h5] <;> rcases h6 with h6 | h6 <;> rw [h6] <;> omega
end
end Go.Proofs.Ytihaajcmephlmaa
