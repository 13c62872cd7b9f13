/-
  Which of two worths is better: the model's way, and the program's three numbers. No program text.
-/
import Derived.Test.YtihaajcmephlmaaBetterMath
namespace Go.Proofs.Ytihaajcmephlmaa
section

def evenB (P : List Int) (v : Nat) : Bool := decide (nth P v % 2 = 0)
/-- The heaviest of the first k vertices that are in one of two sets alone. -/
def unlikeK (P A B : List Int) : Nat → Int
  | 0 => -1
  | k + 1 => if hasB A (k : Int) ≠ hasB B (k : Int) ∧ (unlikeK P A B k < 0 ∨ heavyB P k (unlikeK P A B k).toNat = true) then (k : Int) else unlikeK P A B k
def unlikeL (P A B : List Int) : Int := unlikeK P A B P.length
/-- The model's comparison. -/
def betterB (P : List Int) (h : Nat) (A : List Int) (y : Int) (g : Nat) (B : List Int) (z : Int) : Bool :=
  if h ≠ g then (if evenB P h ≠ evenB P g then evenB P h else heavyB P h g == evenB P h)
  else if 0 ≤ unlikeL P A B then hasB A (unlikeL P A B) == evenB P (unlikeL P A B).toNat
  else if evenB P h = true then decide (y < z) else decide (z < y)
/-- The gains of a set, added up. -/
def sumV (P : List Int) : List Int → Int
  | [] => 0
  | x :: A => gainI P x.toNat + sumV P A
/-- The first difference of three numbers. -/
def cmp3 (a b c x y z : Int) : Int := if cmpI a x = 0 then (if cmpI b y = 0 then cmpI c z else cmpI b y) else cmpI a x
/-- The third number. -/
def wayV (P : List Int) (h : Nat) (y : Int) : Int := if 0 < gainI P h then -y else y

theorem unlikeK_is {P A B : List Int} : ∀ k, (unlikeK P A B k = -1 ∧ ∀ v : Nat, v < k → hasB A (v : Int) = hasB B (v : Int)) ∨ (∃ u : Nat, u < k ∧ unlikeK P A B k = (u : Int) ∧ hasB A (u : Int) ≠ hasB B (u : Int) ∧ ∀ v : Nat, v < k → hasB A (v : Int) ≠ hasB B (v : Int) → v ≠ u → heavyB P u v = true)
  | 0 => .inl ⟨rfl, fun v hv => by omega⟩
  | k + 1 => by
    rw [unlikeK]
    rcases unlikeK_is (P := P) (A := A) (B := B) k with ⟨h1, h2⟩ | ⟨u, h1, h2, h3, h4⟩
    · by_cases hd : hasB A (k : Int) = hasB B (k : Int)
      · rw [if_neg (fun hh => hh.1 hd)]
        refine .inl ⟨h1, fun v hv => ?_⟩
        by_cases e : v = k
        · rw [e]; exact hd
        · exact h2 v (by omega)
      · rw [if_pos ⟨hd, .inl (by omega)⟩]
        refine .inr ⟨k, by omega, rfl, hd, fun v hv hn he => ?_⟩
        exact absurd (h2 v (by omega)) hn
    · rw [h2, Int.toNat_natCast]
      by_cases hd : hasB A (k : Int) ≠ hasB B (k : Int) ∧ heavyB P k u = true
      · rw [if_pos ⟨hd.1, .inr hd.2⟩]
        refine .inr ⟨k, by omega, rfl, hd.1, fun v hv hn he => ?_⟩
        by_cases e : v = u
        · rw [e]; exact hd.2
        · exact heavy_trans hd.2 (h4 v (by omega) hn e)
      · rw [if_neg (fun hh => hd ⟨hh.1, hh.2.resolve_left (by omega)⟩)]
        refine .inr ⟨u, by omega, rfl, h3, fun v hv hn he => ?_⟩
        by_cases e : v = k
        · subst e
          rcases heavy_total (P := P) (u := u) (v := v) (fun h => he h.symm) with h5 | h5
          · exact h5
          · exact absurd ⟨hn, h5⟩ hd
        · exact h4 v (by omega) hn he

def indI (A : List Int) (v : Nat) : Int := if hasB A (v : Int) = true then 1 else 0
theorem sumV_sumD {P : List Int} : ∀ {A : List Int}, A.Pairwise (· < ·) → (∀ x ∈ A, 0 ≤ x ∧ x < P.length) → sumV P A = sumD P (indI A) P.length
  | [], _, _ => by
    rw [sumD_zero (fun v _ => by unfold indI; rw [if_neg (by rw [hasB_iff]; simp)])]
    rfl
  | x :: A, hp, hb => by
    obtain ⟨h1, h2⟩ := List.pairwise_cons.1 hp
    have hx := hb x (by simp)
    obtain ⟨u, rfl⟩ : ∃ u : Nat, x = (u : Int) := ⟨x.toNat, by omega⟩
    rw [sumV, sumV_sumD h2 (fun y hy => hb y (by simp [hy])), Int.toNat_natCast]
    rw [sumD_add (P := P) (d := indI ((u : Int) :: A)) (e := fun v => if v = u then 1 else 0) (f := indI A) (k := P.length) (fun v _ => ?_)]
    · rw [sumD_one (d := fun v => if v = u then 1 else 0) (x := u) (by omega) (fun v _ hn => if_neg hn)]
      show _ = (if u = u then 1 else 0) * gainI P u + _
      rw [if_pos rfl]
      omega
    · show indI ((u : Int) :: A) v = (if v = u then 1 else 0) + indI A v
      unfold indI
      by_cases e : v = u
      · subst e
        have hn : ¬ hasB A (v : Int) = true := fun hh => by
          have := h1 _ (hasB_iff.1 hh)
          omega
        rw [if_pos (by rw [hasB_iff]; simp), if_pos rfl, if_neg hn]
        rfl
      · rw [if_neg e]
        by_cases hh : hasB A (v : Int) = true
        · rw [if_pos hh, if_pos (by rw [hasB_iff]; simp [hasB_iff.1 hh])]
          rfl
        · rw [if_neg hh, if_neg (fun h3 => hh (by
            have := hasB_iff.1 h3
            rw [List.mem_cons] at this
            rcases this with h4 | h4
            · omega
            · exact hasB_iff.2 h4))]
          rfl
theorem sumV_diff {P A B : List Int} (hA : A.Pairwise (· < ·)) (hB : B.Pairwise (· < ·)) (hAb : ∀ x ∈ A, 0 ≤ x ∧ x < P.length) (hBb : ∀ x ∈ B, 0 ≤ x ∧ x < P.length) : sumV P A - sumV P B = sumD P (fun v => indI A v - indI B v) P.length := by
  have h := sumD_add (P := P) (d := indI A) (e := fun v => indI A v - indI B v) (f := indI B) (k := P.length) (fun v _ => by show indI A v = indI A v - indI B v + indI B v; omega)
  rw [sumV_sumD hA hAb, sumV_sumD hB hBb]
  omega
theorem gain_pos {P : List Int} (hP : ∀ x ∈ P, 0 ≤ x ∧ x ≤ 40) {v : Nat} (hv : v < P.length) : 0 < gainI P v ↔ evenB P v = true := by
  have h0 := pow_pos2 (rankL P v)
  have h1 := hP _ (nth_mem hv)
  unfold gainI evenB
  rw [decide_eq_true_eq]
  by_cases h : nth P v % 2 = 1
  · rw [if_pos h]; omega
  · rw [if_neg h]; omega
theorem cmpI_pos (x y : Int) : 0 < cmpI x y ↔ y < x := by
  rcases cmpI_cases x y with ⟨h1, h2⟩ | ⟨h1, h2⟩ | ⟨h1, h2⟩ <;> omega
theorem cmpI_zero (x y : Int) : cmpI x y = 0 ↔ x = y := by
  rcases cmpI_cases x y with ⟨h1, h2⟩ | ⟨h1, h2⟩ | ⟨h1, h2⟩ <;> omega
theorem gain_lt {P : List Int} (hP : ∀ x ∈ P, 0 ≤ x ∧ x ≤ 40) {h g : Nat} (hh : h < P.length) (hg : g < P.length) (hne : h ≠ g) : (gainI P g < gainI P h ↔ (if evenB P h ≠ evenB P g then evenB P h else heavyB P h g == evenB P h) = true) ∧ gainI P h ≠ gainI P g := by
  have e1 := gain_pos hP hh
  have e2 := gain_pos hP hg
  have a1 := gain_abs P h
  have a2 := gain_abs P g
  have p1 := pow_pos2 (rankL P h)
  have p2 := pow_pos2 (rankL P g)
  have hr : rankL P h ≠ rankL P g := fun e => hne (rank_inj hh hg e)
  have hi := rank_iff hg hh
  have hp : (2 : Int) ^ rankL P g < 2 ^ rankL P h ∨ (2 : Int) ^ rankL P h < 2 ^ rankL P g := by
    rcases Nat.lt_or_ge (rankL P g) (rankL P h) with h1 | h1
    · exact .inl (pow_lt2 h1)
    · exact .inr (pow_lt2 (by omega))
  have hpi : (2 : Int) ^ rankL P g < 2 ^ rankL P h ↔ heavyB P h g = true := by
    rw [← hi]
    constructor
    · intro h1
      rcases Nat.lt_or_ge (rankL P g) (rankL P h) with h2 | h2
      · exact h2
      · have := pow_lt2 (show rankL P h < rankL P g by omega); omega
    · exact pow_lt2
  cases hb1 : evenB P h <;> cases hb2 : evenB P g <;> cases hb3 : heavyB P h g <;> rw [hb1] at e1 <;> rw [hb2] at e2 <;> rw [hb3] at hpi <;> simp at e1 e2 hpi ⊢ <;> omega
theorem better_is {O P A B : List Int} {zss : List (List Int)} {h g : Nat} {y z : Int} (ha : worthB O zss P h A y = true) (hb : worthB O zss P g B z = true) :
    0 < cmp3 (gainI P h) (sumV P A) (wayV P h y) (gainI P g) (sumV P B) (wayV P g z) ↔ betterB P h A y g B z = true := by
  obtain ⟨hs, hh, hA, _, _⟩ := worth_iff.1 ha
  obtain ⟨_, hg, hB, _, _⟩ := worth_iff.1 hb
  obtain ⟨hl, h12⟩ := small_len hs
  have hP := (parityB_iff.1 (smallB_iff.1 hs).2).2.2
  have hh' : h < P.length := by have := thereB_iff.1 hh; omega
  have hg' : g < P.length := by have := thereB_iff.1 hg; omega
  have pA : A.Pairwise (· < ·) := rises_pairwise.1 (rises_of hA)
  have pB : B.Pairwise (· < ·) := rises_pairwise.1 (rises_of hB)
  have bA : ∀ x ∈ A, 0 ≤ x ∧ x < P.length := fun x hx => by
    obtain ⟨k, hk, rfl⟩ := mem_nth.1 hx
    have := setB_bounds hA hk
    omega
  have bB : ∀ x ∈ B, 0 ≤ x ∧ x < P.length := fun x hx => by
    obtain ⟨k, hk, rfl⟩ := mem_nth.1 hx
    have := setB_bounds hB hk
    omega
  unfold cmp3 betterB
  by_cases hne : h = g
  · subst hne
    rw [if_pos ((cmpI_zero _ _).2 rfl), if_neg (show ¬ (h ≠ h) from fun hh => hh rfl)]
    have hd := sumV_diff pA pB bA bB
    unfold unlikeL
    rcases unlikeK_is (P := P) (A := A) (B := B) P.length with ⟨h1, h2⟩ | ⟨u, h1, h2, h3, h4⟩
    · have h5 : sumV P A = sumV P B := by
        rw [sumD_zero (fun v hv => by show indI A v - indI B v = 0; unfold indI; rw [h2 v hv]; omega)] at hd
        omega
      rw [if_pos ((cmpI_zero _ _).2 h5), cmpI_pos, h1, if_neg (by omega)]
      have h6 := gain_pos hP hh'
      unfold wayV
      by_cases h7 : 0 < gainI P h
      · rw [if_pos h7, if_pos h7, if_pos (h6.1 h7), decide_eq_true_eq]; omega
      · rw [if_neg h7, if_neg h7, if_neg (fun hh => h7 (h6.2 hh)), decide_eq_true_eq]
    · have h5 := sumD_top (P := P) (d := fun v => indI A v - indI B v) (x := u) (fun v _ => by
        show -1 ≤ indI A v - indI B v ∧ indI A v - indI B v ≤ 1
        unfold indI
        split <;> split <;> omega) h1 (fun hz => h3 (by
        have hz' : indI A u - indI B u = 0 := hz
        unfold indI at hz'
        cases hq1 : hasB A (u : Int) <;> cases hq2 : hasB B (u : Int) <;> rw [hq1, hq2] at hz' <;> simp at hz' ⊢)) (fun v hv hn he => h4 v hv (fun hq => hn (by show indI A v - indI B v = 0; unfold indI; rw [hq]; omega)) he)
      rw [← hd] at h5
      rw [if_neg (fun hz => h5.2 (by have := (cmpI_zero _ _).1 hz; omega)), cmpI_pos, h2, if_pos (by omega), Int.toNat_natCast]
      have h6 : sumV P B < sumV P A ↔ 0 < (indI A u - indI B u) * gainI P u := by rw [← h5.1]; omega
      rw [h6]
      have h7 := gain_pos hP h1
      have h8 := gain_abs P u
      have h9 := pow_pos2 (rankL P u)
      unfold indI
      cases hq1 : hasB A (u : Int) <;> cases hq2 : hasB B (u : Int) <;> rw [hq1, hq2] at h3 <;> cases hq3 : evenB P u <;> rw [hq3] at h7 <;> simp at h3 h7 ⊢ <;> omega
  · obtain ⟨h1, h2⟩ := gain_lt hP hh' hg' hne
    rw [if_neg (fun hz => h2 ((cmpI_zero _ _).1 hz)), cmpI_pos, if_pos hne]
    exact h1
/-- What BetterIn answers. -/
noncomputable def betterInB (O : List Int) (zss : List (List Int)) (P : List Int) (h : Int) (A : List Int) (y : Int) (g : Int) (B : List Int) (z : Int) : Bool := worthB O zss P h A y && (worthB O zss P g B z && betterB P h.toNat A y g.toNat B z)
end
end Go.Proofs.Ytihaajcmephlmaa
