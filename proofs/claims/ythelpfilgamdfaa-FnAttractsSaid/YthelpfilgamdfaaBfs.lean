/-
  Ranks towards a goal. No program text.
-/
import Derived.Test.YthelpfilgamdfaaMem
import Derived.Test.YthelpfilgamdfaaReach
import Derived.Test.YthelpfilgamdfaaPreds
namespace Go.Proofs.Ythelpfilgamdfaa
section
open Go.RowKit

/-- The rank that a vertex gets by those that there are (as the model reckons it: the least and the greatest so far). -/
def rkF (own : Bool) (I : Nat → Bool) (rk : Nat → Int) : Int → Int → List Int → Int
  | l, m, [] => if l < 0 then -1 else if own = true then l + 1 else m + 1
  | l, m, u :: us => if I u.toNat = false then rkF own I rk l m us
      else if rk u.toNat < 0 ∧ own = false then -1
      else if 0 ≤ rk u.toNat then rkF own I rk (if l < 0 ∨ rk u.toNat < l then rk u.toNat else l) (if m < rk u.toNat then rk u.toNat else m) us
      else rkF own I rk l m us

/-- Can the player force a step into A? -/
def CanP (own : Bool) (I A : Nat → Prop) (us : List Int) : Prop :=
  if own = true then ∃ u ∈ us, I u.toNat ∧ A u.toNat else (∃ u ∈ us, I u.toNat) ∧ ∀ u ∈ us, I u.toNat → A u.toNat

def ownB (O : List Int) (who : Int) (v : Nat) : Bool := decide (nth O v = who)

open Classical in
/-- The ranks up to k; -1 where there is none. -/
noncomputable def rkK (zss : List (List Int)) (O : List Int) (who : Int) (I G : Nat → Bool) : Nat → Nat → Int
  | 0, u => if I u = true ∧ G u = true then 0 else -1
  | k + 1, u => if 0 ≤ rkK zss O who I G k u then rkK zss O who I G k u
      else if I u = true ∧ CanP (ownB O who u) (fun x => I x = true) (fun x => 0 ≤ rkK zss O who I G k x) (row zss u) then (k : Int) + 1 else -1

variable {zss : List (List Int)} {O : List Int} {who : Int} {I G : Nat → Bool}

theorem rkK_bound : ∀ k u, -1 ≤ rkK zss O who I G k u ∧ rkK zss O who I G k u ≤ k
  | 0, u => by unfold rkK; split <;> simp
  | k + 1, u => by
    have h := rkK_bound k u
    unfold rkK
    split
    · constructor <;> omega
    · split <;> constructor <;> omega

theorem rkK_old {k u : Nat} (h : 0 ≤ rkK zss O who I G k u) : rkK zss O who I G (k + 1) u = rkK zss O who I G k u := by
  rw [rkK, if_pos h]
theorem rkK_new {k u : Nat} (h : rkK zss O who I G k u < 0) (h1 : 0 ≤ rkK zss O who I G (k + 1) u) : rkK zss O who I G (k + 1) u = k + 1 := by
  rw [rkK, if_neg (by omega)] at h1 ⊢
  split at h1
  · next hc => rw [if_pos hc]
  · omega
theorem rkK_mem : ∀ {k u : Nat}, 0 ≤ rkK zss O who I G k u → I u = true
  | 0, u, h => by
    rw [rkK] at h
    split at h
    · next hc => exact hc.1
    · omega
  | k + 1, u, h => by
    by_cases h0 : 0 ≤ rkK zss O who I G k u
    · exact rkK_mem h0
    · rw [rkK, if_neg h0] at h
      split at h
      · next hc => exact hc.1
      · omega
theorem rkK_small {k u : Nat} (h : 0 ≤ rkK zss O who I G (k + 1) u) (hk : rkK zss O who I G (k + 1) u ≤ k) : 0 ≤ rkK zss O who I G k u := by
  by_cases h0 : 0 ≤ rkK zss O who I G k u
  · exact h0
  · have := rkK_new (by omega) h; omega

theorem rkF_own {rk : Nat → Int} {k : Int} (hk : 0 ≤ k) : ∀ (us : List Int) (l m : Int), (∀ u ∈ us, I u.toNat = true → rk u.toNat < 0 ∨ rk u.toNat = k) → (l < 0 ∨ l = k) →
    (rkF true I rk l m us = k + 1 ↔ l = k ∨ ∃ u ∈ us, I u.toNat = true ∧ 0 ≤ rk u.toNat)
  | [], l, m, _, hl => by
    unfold rkF
    rcases hl with hl | hl
    · rw [if_pos hl]; simp; omega
    · rw [if_neg (by omega), if_pos rfl]; simp [hl]
  | u :: us, l, m, h, hl => by
    have hu := h u (by simp)
    have ht : ∀ x ∈ us, I x.toNat = true → rk x.toNat < 0 ∨ rk x.toNat = k := fun x hx => h x (by simp [hx])
    rw [rkF]
    by_cases hI : I u.toNat = false
    · rw [if_pos hI, rkF_own hk us l m ht hl]
      simp [hI]
    · have hI' : I u.toNat = true := by simpa using hI
      rw [if_neg hI, if_neg (by simp)]
      by_cases hr : 0 ≤ rk u.toNat
      · have hrk : rk u.toNat = k := by rcases hu hI' with h | h <;> omega
        rw [if_pos hr, rkF_own hk us _ _ ht (by split <;> omega)]
        constructor
        · intro _; exact .inr ⟨u, by simp, hI', hr⟩
        · intro _; left; split <;> omega
      · rw [if_neg hr, rkF_own hk us l m ht hl]
        simp [hI', hr]

theorem rkF_opp {rk : Nat → Int} {k : Int} (hk : 0 ≤ k) : ∀ (us : List Int) (l m : Int), (∀ u ∈ us, rk u.toNat ≤ k) → m ≤ k → (0 ≤ m ↔ 0 ≤ l) →
    (rkF false I rk l m us = k + 1 ↔ (∀ u ∈ us, I u.toNat = true → 0 ≤ rk u.toNat) ∧ (m = k ∨ ∃ u ∈ us, I u.toNat = true ∧ rk u.toNat = k))
  | [], l, m, _, hm, hl => by
    unfold rkF
    by_cases h : l < 0
    · rw [if_pos h]; simp; omega
    · rw [if_neg h, if_neg (by simp)]; simp
  | u :: us, l, m, h, hm, hl => by
    have hu := h u (by simp)
    have ht : ∀ x ∈ us, rk x.toNat ≤ k := fun x hx => h x (by simp [hx])
    rw [rkF]
    by_cases hI : I u.toNat = false
    · rw [if_pos hI, rkF_opp hk us l m ht hm hl]
      simp [hI]
    · have hI' : I u.toNat = true := by simpa using hI
      rw [if_neg hI]
      by_cases hr : 0 ≤ rk u.toNat
      · rw [if_neg (by omega), if_pos hr, rkF_opp hk us _ _ ht (by split <;> omega) (by split <;> split <;> omega)]
        simp only [List.mem_cons, forall_eq_or_imp, exists_eq_or_imp, hI', hr, true_and, forall_const]
        constructor
        · rintro ⟨h1, h2 | h2⟩
          · refine ⟨h1, ?_⟩
            split at h2
            · exact .inr (.inl h2)
            · exact .inl h2
          · exact ⟨h1, .inr (.inr h2)⟩
        · rintro ⟨h1, h2 | h2 | h2⟩
          · exact ⟨h1, .inl (by rw [if_neg (by omega)]; exact h2)⟩
          · refine ⟨h1, .inl ?_⟩
            split <;> omega
          · exact ⟨h1, .inr h2⟩
      · rw [if_pos ⟨by omega, rfl⟩]
        constructor
        · intro h; omega
        · intro ⟨h1, _⟩; exact absurd (h1 u (by simp) hI') hr

/-- What the model asks of a vertex at k is what the rank is. -/
theorem rkF_is {k u : Nat} (hu : rkK zss O who I G k u < 0) (hI : I u = true) : rkF (ownB O who u) I (rkK zss O who I G k) (-1) (-1) (row zss u) = k + 1 ↔ 0 ≤ rkK zss O who I G (k + 1) u := by
  have hk : (0 : Int) ≤ (k : Int) := by omega
  have h2 : 0 ≤ rkK zss O who I G (k + 1) u ↔ CanP (ownB O who u) (fun x => I x = true) (fun x => 0 ≤ rkK zss O who I G k x) (row zss u) := by
    rw [rkK, if_neg (by omega)]
    by_cases hc : CanP (ownB O who u) (fun x => I x = true) (fun x => 0 ≤ rkK zss O who I G k x) (row zss u)
    · rw [if_pos ⟨hI, hc⟩]; exact ⟨fun _ => hc, fun _ => by omega⟩
    · rw [if_neg (fun h => hc h.2)]; exact ⟨fun h => by omega, fun h => absurd h hc⟩
  rw [h2]
  have hold : ∀ j, k = j + 1 → ¬ CanP (ownB O who u) (fun x => I x = true) (fun x => 0 ≤ rkK zss O who I G j x) (row zss u) := fun j hj hc => by
    subst hj
    have hj0 : rkK zss O who I G j u < 0 := by
      by_cases h0 : 0 ≤ rkK zss O who I G j u
      · rw [rkK_old h0] at hu; omega
      · omega
    rw [rkK, if_neg (by omega), if_pos ⟨hI, hc⟩] at hu
    omega
  cases hown : ownB O who u with
  | true =>
    rw [hown] at hold
    rw [rkF_own hk (row zss u) (-1) (-1) (fun x hx hIx => ?_) (.inl (by omega))]
    · unfold CanP
      rw [if_pos rfl]
      constructor
      · rintro (h | h)
        · omega
        · exact h
      · exact .inr
    · cases k with
      | zero =>
        have := rkK_bound (zss := zss) (O := O) (who := who) (I := I) (G := G) 0 x.toNat
        omega
      | succ j =>
        by_cases h0 : 0 ≤ rkK zss O who I G (j + 1) x.toNat
        · right
          by_cases h1 : 0 ≤ rkK zss O who I G j x.toNat
          · exact absurd (by unfold CanP; rw [if_pos rfl]; exact ⟨x, hx, hIx, h1⟩) (hold j rfl)
          · rw [rkK_new (by omega) h0]; omega
        · left; omega
  | false =>
    rw [hown] at hold
    rw [rkF_opp hk (row zss u) (-1) (-1) (fun x _ => (rkK_bound k x.toNat).2) (by omega) (by omega)]
    unfold CanP
    rw [if_neg (by simp)]
    constructor
    · rintro ⟨h1, h | ⟨x, hx, hIx, _⟩⟩
      · omega
      · exact ⟨⟨x, hx, hIx⟩, h1⟩
    · rintro ⟨⟨x, hx, hIx⟩, h1⟩
      refine ⟨h1, .inr ?_⟩
      apply Classical.byContradiction
      intro hno
      cases k with
      | zero =>
        have h3 := h1 x hx hIx
        have := rkK_bound (zss := zss) (O := O) (who := who) (I := I) (G := G) 0 x.toNat
        exact hno ⟨x, hx, hIx, by omega⟩
      | succ j =>
        refine hold j rfl ?_
        unfold CanP
        rw [if_neg (by simp)]
        refine ⟨⟨x, hx, hIx⟩, fun y hy hIy => ?_⟩
        have h3 := h1 y hy hIy
        have h4 := rkK_bound (zss := zss) (O := O) (who := who) (I := I) (G := G) (j + 1) y.toNat
        refine rkK_small h3 ?_
        by_cases h5 : rkK zss O who I G (j + 1) y.toNat = ((j + 1 : Nat) : Int)
        · exact absurd ⟨y, hy, hIy, h5⟩ hno
        · omega

/-- A round that gives no rank is the last one. -/
theorem rkK_still {k : Nat} (hin : ∀ u : Nat, u < zss.length → ∀ x ∈ row zss u, ∃ v : Nat, x = (v : Int) ∧ v < zss.length) (h : ∀ u, u < zss.length → rkK zss O who I G (k + 1) u = rkK zss O who I G k u) :
    ∀ j, ∀ u, u < zss.length → rkK zss O who I G (k + j) u = rkK zss O who I G k u
  | 0, u, _ => rfl
  | j + 1, u, hu => by
    have ih := rkK_still hin h j
    rw [← h u hu]
    show rkK zss O who I G ((k + j) + 1) u = _
    by_cases h0 : 0 ≤ rkK zss O who I G (k + j) u
    · rw [rkK_old h0, ih u hu, rkK_old (by rw [← ih u hu]; exact h0)]
    · have h0' : ¬ 0 ≤ rkK zss O who I G k u := by rw [← ih u hu]; exact h0
      have hc : CanP (ownB O who u) (fun x => I x = true) (fun x => 0 ≤ rkK zss O who I G (k + j) x) (row zss u) ↔ CanP (ownB O who u) (fun x => I x = true) (fun x => 0 ≤ rkK zss O who I G k x) (row zss u) := by
        have e : ∀ x ∈ row zss u, (0 ≤ rkK zss O who I G (k + j) x.toNat ↔ 0 ≤ rkK zss O who I G k x.toNat) := fun x hx => by
          obtain ⟨v, rfl, hv⟩ := hin u hu x hx
          rw [Int.toNat_natCast, ih v hv]
        unfold CanP
        split
        · exact ⟨fun ⟨x, h1, h2, h3⟩ => ⟨x, h1, h2, (e x h1).1 h3⟩, fun ⟨x, h1, h2, h3⟩ => ⟨x, h1, h2, (e x h1).2 h3⟩⟩
        · exact ⟨fun ⟨h1, h2⟩ => ⟨h1, fun x hx hI => (e x hx).1 (h2 x hx hI)⟩, fun ⟨h1, h2⟩ => ⟨h1, fun x hx hI => (e x hx).2 (h2 x hx hI)⟩⟩
      have hk1 := h u hu
      rw [rkK, if_neg h0, rkK, if_neg h0']
      rw [rkK, if_neg h0'] at hk1
      by_cases hcc : I u = true ∧ CanP (ownB O who u) (fun x => I x = true) (fun x => 0 ≤ rkK zss O who I G k x) (row zss u)
      · rw [if_pos hcc] at hk1; omega
      · rw [if_neg (fun hh => hcc ⟨hh.1, hc.1 hh.2⟩), if_neg hcc]
end

section
open Go.RowKit

theorem markedK_more (f : Nat → Bool) (n : Nat) : (markedK f (n + 1)).length = (markedK f n).length + (if f n = true then 1 else 0) := by
  rw [markedK, List.length_append]; split <;> rfl
theorem markedK_le {f g : Nat → Bool} : ∀ n, (∀ v, v < n → f v = true → g v = true) → (markedK f n).length ≤ (markedK g n).length
  | 0, _ => Nat.le_refl _
  | n + 1, h => by
    have ih := markedK_le n fun v hv => h v (by omega)
    have hn := h n (by omega)
    rw [markedK_more, markedK_more]
    by_cases hf : f n = true
    · rw [if_pos hf, if_pos (hn hf)]; omega
    · rw [if_neg hf]; omega
theorem markedK_lt {f g : Nat → Bool} : ∀ n, (∀ v, v < n → f v = true → g v = true) → ∀ v, v < n → f v = false → g v = true → (markedK f n).length < (markedK g n).length
  | 0, _, v, hv, _, _ => absurd hv (Nat.not_lt_zero _)
  | n + 1, h, v, hv, h0, h1 => by
    rw [markedK_more, markedK_more]
    by_cases e : v = n
    · subst e
      have := markedK_le (f := f) (g := g) v fun u hu => h u (by omega)
      rw [if_neg (by rw [h0]; decide), if_pos h1]; omega
    · have ih := markedK_lt n (fun u hu => h u (by omega)) v (by omega) h0 h1
      have hn := h n (by omega)
      by_cases hf : f n = true
      · rw [if_pos hf, if_pos (hn hf)]; omega
      · rw [if_neg hf]; omega

section
variable {zss : List (List Int)} {O : List Int} {who : Int} {I G : Nat → Bool}

/-- As many rounds as vertices are enough. -/
theorem rkK_stop (hin : ∀ u : Nat, u < zss.length → ∀ x ∈ row zss u, ∃ v : Nat, x = (v : Int) ∧ v < zss.length) : ∀ u, u < zss.length → rkK zss O who I G (zss.length + 1) u = rkK zss O who I G zss.length u := by
  by_cases hex : ∃ k, k ≤ zss.length ∧ ∀ u, u < zss.length → rkK zss O who I G (k + 1) u = rkK zss O who I G k u
  · obtain ⟨k, hk, hs⟩ := hex
    intro u hu
    have h1 := rkK_still hin hs (zss.length - k) u hu
    have h2 := rkK_still hin hs (zss.length + 1 - k) u hu
    rw [show k + (zss.length - k) = zss.length by omega] at h1
    rw [show k + (zss.length + 1 - k) = zss.length + 1 by omega] at h2
    rw [h1, h2]
  · exfalso
    have key : ∀ k, k ≤ zss.length + 1 → k ≤ (markedK (fun v => decide (0 ≤ rkK zss O who I G k v)) zss.length).length := fun k => by
      induction k with
      | zero => intro _; exact Nat.zero_le _
      | succ k ih =>
        intro hk
        have h1 := ih (by omega)
        obtain ⟨u, hu, hne⟩ : ∃ u, u < zss.length ∧ rkK zss O who I G (k + 1) u ≠ rkK zss O who I G k u := by
          apply Classical.byContradiction
          intro hn
          exact hex ⟨k, by omega, fun u hu => Classical.byContradiction fun hh => hn ⟨u, hu, hh⟩⟩
        have b0 := rkK_bound (zss := zss) (O := O) (who := who) (I := I) (G := G) k u
        have b1 := rkK_bound (zss := zss) (O := O) (who := who) (I := I) (G := G) (k + 1) u
        have h0 : rkK zss O who I G k u < 0 := by
          apply Classical.byContradiction
          intro hh
          exact hne (rkK_old (by omega))
        have h2 := markedK_lt (f := fun v => decide (0 ≤ rkK zss O who I G k v)) (g := fun v => decide (0 ≤ rkK zss O who I G (k + 1) v)) zss.length
          (fun v _ hv => by
            have hv := of_decide_eq_true hv
            exact decide_eq_true (by rw [rkK_old hv]; exact hv)) u hu (decide_eq_false (by omega)) (decide_eq_true (by omega))
        omega
    have h1 := key (zss.length + 1) (Nat.le_refl _)
    have h2 := markedK_len (fun v => decide (0 ≤ rkK zss O who I G (zss.length + 1) v)) zss.length
    omega
end
end

section
open Go.RowKit

theorem CanP.mono {own : Bool} {I A B : Nat → Prop} {us : List Int} (h : CanP own I A us) (hab : ∀ u ∈ us, A u.toNat → B u.toNat) : CanP own I B us := by
  unfold CanP at *
  split at h
  · next ho => rw [if_pos ho]; obtain ⟨u, hu, h1, h2⟩ := h; exact ⟨u, hu, h1, hab u hu h2⟩
  · next ho => rw [if_neg ho]; exact ⟨h.1, fun u hu hI => hab u hu (h.2 u hu hI)⟩
theorem CanP.congr {own : Bool} {I A B : Nat → Prop} {us : List Int} (hab : ∀ u ∈ us, (A u.toNat ↔ B u.toNat)) : CanP own I A us ↔ CanP own I B us :=
  ⟨fun h => h.mono fun u hu => (hab u hu).1, fun h => h.mono fun u hu => (hab u hu).2⟩
theorem CanP.none {own : Bool} {I : Nat → Prop} {us : List Int} : ¬ CanP own I (fun _ => False) us := by
  unfold CanP
  split
  · rintro ⟨_, _, _, h⟩; exact h
  · rintro ⟨⟨u, hu, hI⟩, h⟩; exact h u hu hI

section
variable {zss : List (List Int)} {O : List Int} {who : Int} {I G : Nat → Bool}

theorem rkK_on {k u : Nat} (h : 0 ≤ rkK zss O who I G k u) : ∀ j, rkK zss O who I G (k + j) u = rkK zss O who I G k u
  | 0 => rfl
  | j + 1 => by
    have ih := rkK_on h j
    rw [← Nat.add_assoc, rkK_old (by rw [ih]; exact h), ih]

theorem rkK_back {k u : Nat} : ∀ j, 0 ≤ rkK zss O who I G (k + j) u → rkK zss O who I G (k + j) u ≤ k → 0 ≤ rkK zss O who I G k u
  | 0, h, _ => h
  | j + 1, h, hk => by
    rw [← Nat.add_assoc] at h hk
    have h1 := rkK_small h (by omega)
    rw [rkK_old h1] at hk
    exact rkK_back j h1 hk

/-- v can be forced into P in one step, or is where it should be. -/
def QueP (zss : List (List Int)) (O : List Int) (who : Int) (I G : Nat → Bool) (P : Nat → Prop) (v : Nat) : Prop :=
  I v = true ∧ (G v = true ∨ CanP (ownB O who v) (fun x => I x = true) P (row zss v))

theorem QueP.mono {P P' : Nat → Prop} {v : Nat} (h : QueP zss O who I G P v) (hp : ∀ x ∈ row zss v, P x.toNat → P' x.toNat) : QueP zss O who I G P' v :=
  ⟨h.1, h.2.imp id fun hc => hc.mono hp⟩
theorem QueP.congr {P P' : Nat → Prop} {v : Nat} (hp : ∀ x ∈ row zss v, (P x.toNat ↔ P' x.toNat)) : QueP zss O who I G P v ↔ QueP zss O who I G P' v :=
  ⟨fun h => h.mono fun x hx => (hp x hx).1, fun h => h.mono fun x hx => (hp x hx).2⟩

theorem rkK_que : ∀ (k v : Nat), 0 ≤ rkK zss O who I G (k + 1) v ↔ QueP zss O who I G (fun x => 0 ≤ rkK zss O who I G k x) v := fun k => by
  induction k with
  | zero =>
    intro v
    constructor
    · intro h
      by_cases h0 : 0 ≤ rkK zss O who I G 0 v
      · rw [rkK] at h0
        split at h0
        · next hc => exact ⟨hc.1, .inl hc.2⟩
        · omega
      · rw [rkK, if_neg h0] at h
        split at h
        · next hc => exact ⟨hc.1, .inr hc.2⟩
        · omega
    · rintro ⟨hI, h⟩
      by_cases h0 : 0 ≤ rkK zss O who I G 0 v
      · rw [rkK_old h0]; exact h0
      · rcases h with h | h
        · exact absurd (by rw [rkK, if_pos ⟨hI, h⟩]; omega) h0
        · rw [rkK, if_neg h0, if_pos ⟨hI, h⟩]; omega
  | succ k ih =>
    intro v
    constructor
    · intro h
      by_cases h0 : 0 ≤ rkK zss O who I G (k + 1) v
      · exact ((ih v).1 h0).mono fun x _ hx => by rw [rkK_old hx]; exact hx
      · rw [rkK, if_neg h0] at h
        split at h
        · next hc => exact ⟨hc.1, .inr hc.2⟩
        · omega
    · rintro ⟨hI, h⟩
      by_cases h0 : 0 ≤ rkK zss O who I G (k + 1) v
      · rw [rkK_old h0]; exact h0
      · rcases h with h | h
        · exact absurd ((ih v).2 ⟨hI, .inl h⟩) h0
        · rw [rkK, if_neg h0, if_pos ⟨hI, h⟩]; omega

/-- Every successor is a vertex. -/
def InG (zss : List (List Int)) : Prop := ∀ u : Nat, u < zss.length → ∀ x ∈ row zss u, ∃ v : Nat, x = (v : Int) ∧ v < zss.length

/-- The vertices of ranks below r. -/
def DoneR (R : Nat → Int) (r x : Nat) : Prop := 0 ≤ R x ∧ R x < r

theorem doneR_is (hin : InG zss) (k : Nat) {x : Nat} (hx : x < zss.length) : DoneR (rkK zss O who I G zss.length) (k + 1) x ↔ 0 ≤ rkK zss O who I G k x := by
  have hb := rkK_bound (zss := zss) (O := O) (who := who) (I := I) (G := G) zss.length x
  have hbk := rkK_bound (zss := zss) (O := O) (who := who) (I := I) (G := G) k x
  unfold DoneR
  by_cases hk : k ≤ zss.length
  · obtain ⟨j, hj⟩ : ∃ j, zss.length = k + j := ⟨zss.length - k, by omega⟩
    constructor
    · rintro ⟨h1, h2⟩
      rw [hj] at h1 h2
      exact rkK_back j h1 (by omega)
    · intro h
      have e := rkK_on h j
      rw [← hj] at e
      rw [e]
      exact ⟨h, by omega⟩
  · obtain ⟨j, hj⟩ : ∃ j, k = zss.length + j := ⟨k - zss.length, by omega⟩
    have e := rkK_still hin (rkK_stop (O := O) (who := who) (I := I) (G := G) hin) j x hx
    rw [← hj] at e
    rw [e]
    constructor
    · rintro ⟨h1, _⟩; exact h1
    · intro h; exact ⟨h, by omega⟩

theorem doneR_succ (hin : InG zss) (r : Nat) {v : Nat} (hv : v < zss.length) : DoneR (rkK zss O who I G zss.length) (r + 1) v ↔ QueP zss O who I G (DoneR (rkK zss O who I G zss.length) r) v := by
  rw [doneR_is hin r hv]
  cases r with
  | zero =>
    rw [rkK]
    constructor
    · intro h
      split at h
      · next hc => exact ⟨hc.1, .inl hc.2⟩
      · omega
    · rintro ⟨hI, h | h⟩
      · rw [if_pos ⟨hI, h⟩]; omega
      · exact absurd ((CanP.congr fun u _ => by unfold DoneR; constructor <;> intro hh <;> first | omega | exact hh.elim).1 h) CanP.none
  | succ k =>
    rw [rkK_que]
    exact QueP.congr fun x hx => by
      obtain ⟨y, rfl, hy⟩ := hin v hv x hx
      rw [Int.toNat_natCast]
      exact (doneR_is hin k hy).symm

open Classical in
/-- What v still waits for when P have had their turn. -/
noncomputable def waitF (zss : List (List Int)) (O : List Int) (who : Int) (I G : Nat → Bool) (P : Nat → Prop) (v : Nat) : Int :=
  if I v = true ∧ G v = false then
    if ownB O who v = true then (if ∃ x ∈ row zss v, I x.toNat = true ∧ P x.toNat then 0 else 1)
    else (((row zss v).filter (fun x => I x.toNat && !decide (P x.toNat))).length : Int)
  else 0

theorem waitF_bound (P : Nat → Prop) (v : Nat) : 0 ≤ waitF zss O who I G P v ∧ waitF zss O who I G P v ≤ (row zss v).length + 1 := by
  have := fun p => List.length_filter_le (p : Int → Bool) (row zss v)
  unfold waitF
  split
  · split
    · split <;> constructor <;> omega
    · constructor
      · omega
      · have := this (fun x => I x.toNat && !@decide (P x.toNat) (Classical.propDecidable _)); omega
  · constructor <;> omega

theorem waitF_congr {P P' : Nat → Prop} {v : Nat} (hp : ∀ x ∈ row zss v, (P x.toNat ↔ P' x.toNat)) : waitF zss O who I G P v = waitF zss O who I G P' v := by
  have e1 : (∃ x ∈ row zss v, I x.toNat = true ∧ P x.toNat) ↔ (∃ x ∈ row zss v, I x.toNat = true ∧ P' x.toNat) :=
    ⟨fun ⟨x, hx, h1, h2⟩ => ⟨x, hx, h1, (hp x hx).1 h2⟩, fun ⟨x, hx, h1, h2⟩ => ⟨x, hx, h1, (hp x hx).2 h2⟩⟩
  have e2 : (row zss v).filter (fun x => I x.toNat && !@decide (P x.toNat) (Classical.propDecidable _)) = (row zss v).filter (fun x => I x.toNat && !@decide (P' x.toNat) (Classical.propDecidable _)) :=
    List.filter_congr fun x hx => by
      by_cases h : P x.toNat
      · simp [h, (hp x hx).1 h]
      · have h' : ¬ P' x.toNat := fun hh => h ((hp x hx).2 hh)
        simp [h, h']
  unfold waitF
  rw [e2]
  by_cases h1 : ∃ x ∈ row zss v, I x.toNat = true ∧ P x.toNat
  · rw [if_pos h1, if_pos (e1.1 h1)]
  · rw [if_neg h1, if_neg (fun hh => h1 (e1.2 hh))]

/-- A vertex with a successor in I waits for nothing just when it can be forced. -/
theorem waitF_zero {P : Nat → Prop} {v : Nat} (hI : I v = true) (hG : G v = false) (hs : ∃ x ∈ row zss v, I x.toNat = true) :
    waitF zss O who I G P v = 0 ↔ CanP (ownB O who v) (fun x => I x = true) P (row zss v) := by
  unfold waitF CanP
  rw [if_pos ⟨hI, hG⟩]
  by_cases ho : ownB O who v = true
  · rw [if_pos ho, if_pos ho]
    split
    · next h => exact ⟨fun _ => h, fun _ => rfl⟩
    · next h => exact ⟨fun hh => absurd hh (by omega), fun hh => absurd hh h⟩
  · rw [if_neg ho, if_neg ho]
    rw [Int.natCast_eq_zero, List.length_eq_zero_iff, List.filter_eq_nil_iff]
    constructor
    · intro h
      refine ⟨hs, fun x hx hIx => ?_⟩
      have := h x hx
      simp [hIx] at this
      exact this
    · rintro ⟨_, h⟩ x hx hh
      simp at hh
      exact hh.2 (h x hx hh.1)

theorem waitF_out {P : Nat → Prop} {v : Nat} (h : ¬ (I v = true ∧ G v = false)) : waitF zss O who I G P v = 0 := by unfold waitF; rw [if_neg h]

/-- One more has its turn. -/
def AddP (P : Nat → Prop) (u : Nat) : Nat → Prop := fun x => P x ∨ x = u

theorem filter_one_less {p q : Int → Bool} {u : Int} : ∀ {us : List Int}, us.Nodup → u ∈ us → p u = true → q u = false → (∀ x ∈ us, x ≠ u → p x = q x) → (us.filter p).length = (us.filter q).length + 1
  | [], _, h, _, _, _ => by cases h
  | y :: ys, hn, hu, hp, hq, he => by
    rw [List.nodup_cons] at hn
    by_cases e : y = u
    · subst e
      rw [List.filter_cons_of_pos hp, List.filter_cons_of_neg (by rw [hq]; decide), List.filter_congr fun x hx => he x (by simp [hx]) (fun e => hn.1 (by rw [← e]; exact hx))]
      rfl
    · have hu' : u ∈ ys := by
        rcases List.mem_cons.1 hu with h | h
        · exact absurd h.symm e
        · exact h
      have ih := filter_one_less hn.2 hu' hp hq fun x hx => he x (by simp [hx])
      have hy := he y (by simp) e
      by_cases h : p y = true
      · rw [List.filter_cons_of_pos h, List.filter_cons_of_pos (by rw [← hy]; exact h)]; simp [ih]
      · rw [List.filter_cons_of_neg h, List.filter_cons_of_neg (by rw [← hy]; exact h)]; exact ih

/-- Who waits for u waits for one less. -/
theorem waitF_hit {P : Nat → Prop} {u v : Nat} (hn : (row zss v).Nodup) (hpos : ∀ x ∈ row zss v, 0 ≤ x) (hu : (u : Int) ∈ row zss v) (hI : I u = true) (hP : ¬ P u) :
    (waitF zss O who I G P v = 0 → waitF zss O who I G (AddP P u) v = 0) ∧ (waitF zss O who I G P v ≠ 0 → waitF zss O who I G (AddP P u) v = waitF zss O who I G P v - 1) := by
  unfold waitF
  by_cases hc : I v = true ∧ G v = false
  · rw [if_pos hc, if_pos hc]
    by_cases ho : ownB O who v = true
    · rw [if_pos ho, if_pos ho]
      have h1 : ∃ x ∈ row zss v, I x.toNat = true ∧ AddP P u x.toNat := ⟨u, hu, by rw [Int.toNat_natCast]; exact hI, .inr (Int.toNat_natCast u)⟩
      rw [if_pos h1]
      refine ⟨fun _ => rfl, fun h => ?_⟩
      split at h
      · exact absurd rfl h
      · next hh => rw [if_neg hh]; rfl
    · rw [if_neg ho, if_neg ho]
      have e := filter_one_less (p := fun x => I x.toNat && !@decide (P x.toNat) (Classical.propDecidable _)) (q := fun x => I x.toNat && !@decide (AddP P u x.toNat) (Classical.propDecidable _)) hn hu (by simp [hI, hP]) (by simp [AddP])
        (fun x hx hne => by
          have hx0 := hpos x hx
          have hxu : x.toNat ≠ u := by omega
          by_cases hh : P x.toNat
          · simp [AddP, hh]
          · simp [AddP, hxu, hh])
      constructor
      · intro h; omega
      · intro _; omega
  · rw [if_neg hc, if_neg hc]
    exact ⟨fun _ => rfl, fun h => absurd rfl h⟩

theorem addP_miss {P : Nat → Prop} {u v : Nat} (hpos : ∀ x ∈ row zss v, 0 ≤ x) (hu : (u : Int) ∉ row zss v) : ∀ x ∈ row zss v, (P x.toNat ↔ AddP P u x.toNat) := fun x hx => by
  refine ⟨.inl, fun h => ?_⟩
  rcases h with h | h
  · exact h
  · refine absurd ?_ hu
    rw [← h, Int.toNat_of_nonneg (hpos x hx)]; exact hx

theorem predsK_iff (zss : List (List Int)) (u : Int) : ∀ (n : Nat) (x : Int), x ∈ predsK zss u n ↔ ∃ v : Nat, x = (v : Int) ∧ v < n ∧ u ∈ row zss v
  | 0, x => by simp [predsK]
  | n + 1, x => by
    rw [predsK, List.mem_append, predsK_iff zss u n x]
    constructor
    · rintro (⟨v, h1, h2, h3⟩ | h)
      · exact ⟨v, h1, by omega, h3⟩
      · split at h
        · next hh => exact ⟨n, by simpa using h, by omega, hasB_iff.1 hh⟩
        · cases h
    · rintro ⟨v, h1, h2, h3⟩
      by_cases e : v = n
      · subst e
        right
        rw [if_pos (hasB_iff.2 h3)]
        simp [h1]
      · exact .inl ⟨v, h1, by omega, h3⟩
theorem predsK_nodup (zss : List (List Int)) (u : Int) : ∀ n, (predsK zss u n).Nodup
  | 0 => by simp [predsK]
  | n + 1 => by
    rw [predsK, List.nodup_append]
    refine ⟨predsK_nodup zss u n, by split <;> simp, fun x hx y hy e => ?_⟩
    subst e
    have h1 := predsK_mem zss u n x hx
    split at hy
    · simp at hy; omega
    · cases hy

/-- Vertices, none of them twice. -/
structure VertsP (n : Nat) (L : List Int) : Prop where
  once : L.Nodup
  all : ∀ x ∈ L, ∃ v : Nat, x = (v : Int) ∧ v < n

theorem VertsP.len {n : Nat} {L : List Int} (h : VertsP n L) : L.length ≤ n := by
  have h1 : (L.map Int.toNat).Nodup := by
    rw [List.Nodup, List.pairwise_map]
    exact List.Pairwise.imp_of_mem (fun {a b} ha hb hne => by
      obtain ⟨v, rfl, _⟩ := h.all a ha
      obtain ⟨u, rfl, _⟩ := h.all b hb
      simp; omega) h.once
  have h2 : L.map Int.toNat ⊆ List.range n := fun x hx => by
    obtain ⟨y, hy, rfl⟩ := List.mem_map.1 hx
    obtain ⟨v, rfl, hv⟩ := h.all y hy
    simp [hv]
  have := List.Nodup.length_le_of_subset h1 h2
  simpa using this
theorem VertsP.at {n : Nat} {L : List Int} (h : VertsP n L) {k : Nat} (hk : k < L.length) : ∃ v : Nat, nth L k = (v : Int) ∧ v < n := h.all _ (nth_mem hk)
theorem VertsP.fits {n : Nat} {L : List Int} (h : VertsP n L) (hn : n ≤ 1048576) : ∀ k, k < L.length → Fits (nth L k) := fun k hk => by
  obtain ⟨v, h1, h2⟩ := h.at hk; rw [h1]; unfold Fits; omega
theorem VertsP.nil (n : Nat) : VertsP n [] := ⟨List.nodup_nil, fun x hx => by cases hx⟩
theorem VertsP.snoc {n v : Nat} {L : List Int} (h : VertsP n L) (hv : v < n) (hn : (v : Int) ∉ L) : VertsP n (L ++ [(v : Int)]) :=
  ⟨List.nodup_append.2 ⟨h.once, by simp, fun x hx y hy e => hn (by simp at hy; rw [← hy, ← e]; exact hx)⟩, fun x hx => by
    rcases List.mem_append.1 hx with hx | hx
    · exact h.all x hx
    · exact ⟨v, by simpa using hx, hv⟩⟩

/-- A layer: just the vertices of the rank r. -/
structure LayP (n : Nat) (R : Nat → Int) (r : Nat) (L : List Int) : Prop where
  verts : VertsP n L
  is : ∀ v : Nat, v < n → ((v : Int) ∈ L ↔ R v = r)

/-- Those of lower rank, and the first i of the layer. -/
def PastP (R : Nat → Int) (r : Nat) (L : List Int) (i : Nat) : Nat → Prop := fun x => DoneR R r x ∨ (x : Int) ∈ L.take i

/-- Between two vertices of the layer r: f is what all wait for, ab are those that come next. -/
structure MidP (zss : List (List Int)) (O : List Int) (who : Int) (I G : Nat → Bool) (R : Nat → Int) (r i : Nat) (L ab : List Int) (f : Nat → Int) : Prop where
  waits : ∀ v, v < zss.length → f v = waitF zss O who I G (PastP R r L i) v
  verts : VertsP zss.length ab
  is : ∀ v : Nat, v < zss.length → ((v : Int) ∈ ab ↔ QueP zss O who I G (PastP R r L i) v ∧ ¬ DoneR R (r + 1) v)

/-- While the predecessors vs of the vertex u are read. -/
structure InP (zss : List (List Int)) (O : List Int) (who : Int) (I G : Nat → Bool) (R : Nat → Int) (r u j : Nat) (P : Nat → Prop) (ab : List Int) (f : Nat → Int) : Prop where
  waits : ∀ v, v < zss.length → f v = if (v : Int) ∈ (predsK zss u zss.length).take j then waitF zss O who I G (AddP P u) v else waitF zss O who I G P v
  verts : VertsP zss.length ab
  is : ∀ v : Nat, v < zss.length → ((v : Int) ∈ ab ↔ (QueP zss O who I G P v ∨ ((v : Int) ∈ (predsK zss u zss.length).take j ∧ QueP zss O who I G (AddP P u) v)) ∧ ¬ DoneR R (r + 1) v)

end

/-- What a graph's rows are. -/
structure RowsP (zss : List (List Int)) : Prop where
  inG : InG zss
  once : ∀ v, v < zss.length → (row zss v).Nodup

theorem RowsP.pos {zss : List (List Int)} (h : RowsP zss) {v : Nat} (hv : v < zss.length) : ∀ x ∈ row zss v, 0 ≤ x := fun x hx => by
  obtain ⟨y, rfl, _⟩ := h.inG v hv x hx; omega

theorem rowsP_of {O : List Int} {zss : List (List Int)} (h : ArenaP O zss) : RowsP zss where
  inG := fun u hu x hx => by
    have hr := (h.2.2.2 u (by have := h.2.2.1; omega)).2.2.2
    obtain ⟨k, hk, e⟩ := mem_nth.1 hx
    obtain ⟨h1, h2, _⟩ := setB_bounds hr hk
    have := h.2.2.1
    exact ⟨x.toNat, by omega, by omega⟩
  once := fun v hv => by
    have hr := (h.2.2.2 v (by have := h.2.2.1; omega)).2.2.2
    rw [List.Nodup, List.pairwise_iff_getElem]
    intro i j hi hj hij e
    have hb := (setB_bounds hr hj).2.2 i hij
    rw [nth_eq hi, nth_eq hj] at hb
    omega

section
variable {zss : List (List Int)} {O : List Int} {who : Int} {I G : Nat → Bool} {r : Nat}

theorem take_snoc {L : List Int} {i : Nat} (hi : i < L.length) : L.take (i + 1) = L.take i ++ [nth L i] := by
  rw [List.take_add_one, List.getElem?_eq_getElem hi, nth_eq hi]; rfl

theorem pastP_succ {R : Nat → Int} {L : List Int} {i u : Nat} (hi : i < L.length) (hu : nth L i = (u : Int)) (x : Nat) : PastP R r L (i + 1) x ↔ AddP (PastP R r L i) u x := by
  unfold PastP AddP
  rw [take_snoc hi, hu, List.mem_append]
  simp only [List.mem_singleton, Int.natCast_inj]
  exact or_assoc.symm

theorem LayP.fresh {n : Nat} {R : Nat → Int} {L : List Int} (h : LayP n R r L) {i u : Nat} (hi : i < L.length) (hu : nth L i = (u : Int)) (hun : u < n) : R u = r ∧ ¬ PastP R r L i u := by
  have h1 : R u = r := (h.is u hun).1 (by rw [← hu]; exact nth_mem hi)
  refine ⟨h1, ?_⟩
  rintro (hh | hh)
  · unfold DoneR at hh; omega
  · have hn := h.verts.once
    rw [← List.take_append_drop i L, List.nodup_append] at hn
    refine hn.2.2 _ hh _ ?_ rfl
    rw [← hu, List.mem_iff_getElem?]
    exact ⟨0, by rw [List.getElem?_drop, Nat.add_zero, List.getElem?_eq_getElem hi, nth_eq hi]⟩

theorem InP.start {R : Nat → Int} {L ab : List Int} {f : Nat → Int} {i u : Nat} (h : MidP zss O who I G R r i L ab f) : InP zss O who I G R r u 0 (PastP R r L i) ab f where
  waits := fun v hv => by rw [List.take_zero, if_neg (by simp)]; exact h.waits v hv
  verts := h.verts
  is := fun v hv => by rw [h.is v hv, List.take_zero]; simp

theorem InP.full {R : Nat → Int} {L ab : List Int} {f : Nat → Int} {i u : Nat} (hz : RowsP zss) (hi : i < L.length) (hu : nth L i = (u : Int)) (h : InP zss O who I G R r u (predsK zss u zss.length).length (PastP R r L i) ab f) : MidP zss O who I G R r (i + 1) L ab f where
  waits := fun v hv => by
    rw [h.waits v hv, List.take_length, waitF_congr fun x _ => pastP_succ hi hu x.toNat]
    by_cases hm : (u : Int) ∈ row zss v
    · rw [if_pos ((predsK_iff _ _ _ _).2 ⟨v, rfl, hv, hm⟩)]
    · rw [if_neg (fun hh => by obtain ⟨v', e, _, h3⟩ := (predsK_iff _ _ _ _).1 hh; rw [Int.natCast_inj.1 e] at hm; exact hm h3)]
      exact waitF_congr (addP_miss (hz.pos hv) hm)
  verts := h.verts
  is := fun v hv => by
    rw [h.is v hv, List.take_length, QueP.congr (P := PastP R r L (i + 1)) fun x _ => pastP_succ hi hu x.toNat]
    refine and_congr ⟨fun hh => ?_, fun hh => ?_⟩ Iff.rfl
    · rcases hh with hh | hh
      · exact hh.mono fun x _ => .inl
      · exact hh.2
    · by_cases hm : (u : Int) ∈ row zss v
      · exact .inr ⟨(predsK_iff _ _ _ _).2 ⟨v, rfl, hv, hm⟩, hh⟩
      · exact .inl ((QueP.congr (addP_miss (hz.pos hv) hm)).2 hh)

variable {R : Nat → Int}

theorem preds_at {u j v : Nat} (hj : j < (predsK zss u zss.length).length) (hv : nth (predsK zss u zss.length) j = (v : Int)) : v < zss.length ∧ (u : Int) ∈ row zss v ∧ (v : Int) ∉ (predsK zss u zss.length).take j := by
  obtain ⟨v', h1, h2, h3⟩ := (predsK_iff _ _ _ _).1 (nth_mem hj)
  rw [hv] at h1
  obtain rfl := Int.natCast_inj.1 h1
  refine ⟨h2, h3, fun hh => ?_⟩
  have hn := predsK_nodup zss u zss.length
  rw [← List.take_append_drop j (predsK zss u zss.length), List.nodup_append] at hn
  refine hn.2.2 _ hh _ ?_ rfl
  rw [← hv, List.mem_iff_getElem?]
  exact ⟨0, by rw [List.getElem?_drop, Nat.add_zero, List.getElem?_eq_getElem hj, nth_eq hj]⟩

/-- The vertex v waits for nothing: it is passed over. -/
theorem InP.pass {P : Nat → Prop} {ab : List Int} {f : Nat → Int} {u j v : Nat} (hz : RowsP zss) (h : InP zss O who I G R r u j P ab f) (hIu : I u = true) (hP : ¬ P u)
    (hj : j < (predsK zss u zss.length).length) (hv : nth (predsK zss u zss.length) j = (v : Int)) (hf : f v = 0) : InP zss O who I G R r u (j + 1) P ab f := by
  obtain ⟨hvn, hm, hno⟩ := preds_at hj hv
  have hw0 : waitF zss O who I G P v = 0 := by rw [← hf, h.waits v hvn, if_neg hno]
  have hw1 := (waitF_hit (hz.once v hvn) (hz.pos hvn) hm hIu hP).1 hw0
  have hq : QueP zss O who I G (AddP P u) v → QueP zss O who I G P v := fun hq => by
    refine ⟨hq.1, ?_⟩
    by_cases hG : G v = true
    · exact .inl hG
    · exact .inr ((waitF_zero hq.1 (by simpa using hG) ⟨u, hm, by rw [Int.toNat_natCast]; exact hIu⟩).1 hw0)
  refine ⟨fun x hx => ?_, h.verts, fun x hx => ?_⟩
  · rw [h.waits x hx, take_snoc hj, hv]
    by_cases e : x = v
    · subst e
      rw [if_neg hno, if_pos (by simp), hw0, hw1]
    · have e' : ((x : Int) = v) ↔ False := ⟨fun h => e (Int.natCast_inj.1 h), False.elim⟩
      simp only [List.mem_append, List.mem_singleton, e', or_false]
  · rw [h.is x hx, take_snoc hj, hv]
    refine and_congr ⟨fun hh => hh.imp id fun hh => ⟨by simp [hh.1], hh.2⟩, fun hh => ?_⟩ Iff.rfl
    rcases hh with hh | ⟨h1, h2⟩
    · exact .inl hh
    · rw [List.mem_append] at h1
      rcases h1 with h1 | h1
      · exact .inr ⟨h1, h2⟩
      · obtain rfl := Int.natCast_inj.1 (List.mem_singleton.1 h1)
        exact .inl (hq h2)

/-- The vertex v waits for one less, and for more. -/
theorem InP.less {P : Nat → Prop} {ab : List Int} {f : Nat → Int} {u j v : Nat} (hz : RowsP zss) (h : InP zss O who I G R r u j P ab f) (hIu : I u = true) (hP : ¬ P u)
    (hj : j < (predsK zss u zss.length).length) (hv : nth (predsK zss u zss.length) j = (v : Int)) (hf : f v ≠ 0) (hf1 : f v - 1 ≠ 0) : InP zss O who I G R r u (j + 1) P ab (fun x => if x = v then f v - 1 else f x) := by
  obtain ⟨hvn, hm, hno⟩ := preds_at hj hv
  have ew : f v = waitF zss O who I G P v := by rw [h.waits v hvn, if_neg hno]
  have hw1 := (waitF_hit (hz.once v hvn) (hz.pos hvn) hm hIu hP).2 (by rw [← ew]; exact hf)
  have hin : I v = true ∧ G v = false := Classical.byContradiction fun hc => hf (by rw [ew, waitF_out hc])
  have hq : ¬ QueP zss O who I G (AddP P u) v := fun hq => by
    rcases hq.2 with hG | hc
    · rw [hin.2] at hG; cases hG
    · refine hf1 ?_
      rw [ew, ← hw1]
      exact (waitF_zero hin.1 hin.2 ⟨u, hm, by rw [Int.toNat_natCast]; exact hIu⟩).2 hc
  refine ⟨fun x hx => ?_, h.verts, fun x hx => ?_⟩
  · rw [take_snoc hj, hv]
    by_cases e : x = v
    · subst e
      rw [if_pos rfl, if_pos (by simp), hw1, ew]
    · have e' : ((x : Int) = v) ↔ False := ⟨fun h => e (Int.natCast_inj.1 h), False.elim⟩
      rw [if_neg e, h.waits x hx]
      simp only [List.mem_append, List.mem_singleton, e', or_false]
  · rw [h.is x hx, take_snoc hj, hv]
    refine and_congr ⟨fun hh => hh.imp id fun hh => ⟨by simp [hh.1], hh.2⟩, fun hh => ?_⟩ Iff.rfl
    rcases hh with hh | ⟨h1, h2⟩
    · exact .inl hh
    · rw [List.mem_append] at h1
      rcases h1 with h1 | h1
      · exact .inr ⟨h1, h2⟩
      · obtain rfl := Int.natCast_inj.1 (List.mem_singleton.1 h1)
        exact absurd h2 hq

/-- The vertex v waits for one less, and for nothing more: it comes next. -/
theorem InP.next {P : Nat → Prop} {ab : List Int} {f : Nat → Int} {u j v : Nat} (hz : RowsP zss) (h : InP zss O who I G R r u j P ab f) (hIu : I u = true) (hP : ¬ P u) (hd : ∀ x, x < zss.length → DoneR R (r + 1) x → QueP zss O who I G P x)
    (hj : j < (predsK zss u zss.length).length) (hv : nth (predsK zss u zss.length) j = (v : Int)) (hf : f v ≠ 0) (hf1 : f v - 1 = 0) : InP zss O who I G R r u (j + 1) P (ab ++ [(v : Int)]) (fun x => if x = v then f v - 1 else f x) := by
  obtain ⟨hvn, hm, hno⟩ := preds_at hj hv
  have ew : f v = waitF zss O who I G P v := by rw [h.waits v hvn, if_neg hno]
  have hw1 := (waitF_hit (hz.once v hvn) (hz.pos hvn) hm hIu hP).2 (by rw [← ew]; exact hf)
  have hin : I v = true ∧ G v = false := Classical.byContradiction fun hc => hf (by rw [ew, waitF_out hc])
  have hs : ∃ x ∈ row zss v, I x.toNat = true := ⟨u, hm, by rw [Int.toNat_natCast]; exact hIu⟩
  have hq : QueP zss O who I G (AddP P u) v := ⟨hin.1, .inr ((waitF_zero hin.1 hin.2 hs).1 (by rw [hw1, ← ew]; exact hf1))⟩
  have hq0 : ¬ QueP zss O who I G P v := fun hq => by
    rcases hq.2 with hG | hc
    · rw [hin.2] at hG; cases hG
    · exact hf (by rw [ew]; exact (waitF_zero hin.1 hin.2 hs).2 hc)
  have hnd : ¬ DoneR R (r + 1) v := fun hh => hq0 (hd v hvn hh)
  have hna : (v : Int) ∉ ab := fun hh => by
    rcases ((h.is v hvn).1 hh).1 with h1 | h1
    · exact hq0 h1
    · exact hno h1.1
  refine ⟨fun x hx => ?_, h.verts.snoc hvn hna, fun x hx => ?_⟩
  · rw [take_snoc hj, hv]
    by_cases e : x = v
    · subst e
      rw [if_pos rfl, if_pos (by simp), hw1, ew]
    · have e' : ((x : Int) = v) ↔ False := ⟨fun h => e (Int.natCast_inj.1 h), False.elim⟩
      rw [if_neg e, h.waits x hx]
      simp only [List.mem_append, List.mem_singleton, e', or_false]
  · rw [List.mem_append, h.is x hx, take_snoc hj, hv]
    constructor
    · rintro (hh | hh)
      · exact ⟨hh.1.imp id fun hh => ⟨by simp [hh.1], hh.2⟩, hh.2⟩
      · obtain rfl := Int.natCast_inj.1 (List.mem_singleton.1 hh)
        exact ⟨.inr ⟨by simp, hq⟩, hnd⟩
    · rintro ⟨hh, hh2⟩
      rcases hh with hh | ⟨h1, h2⟩
      · exact .inl ⟨.inl hh, hh2⟩
      · rw [List.mem_append] at h1
        rcases h1 with h1 | h1
        · exact .inl ⟨.inr ⟨h1, h2⟩, hh2⟩
        · exact .inr h1

/-- When the whole layer has had its turn, the next one lies ready. -/
theorem MidP.full {L ab : List Int} {f : Nat → Int} (hz : RowsP zss) (hL : LayP zss.length (rkK zss O who I G zss.length) r L) (h : MidP zss O who I G (rkK zss O who I G zss.length) r L.length L ab f) :
    LayP zss.length (rkK zss O who I G zss.length) (r + 1) ab ∧ MidP zss O who I G (rkK zss O who I G zss.length) (r + 1) 0 ab [] f := by
  have hp : ∀ x, x < zss.length → (PastP (rkK zss O who I G zss.length) r L L.length x ↔ DoneR (rkK zss O who I G zss.length) (r + 1) x) := fun x hx => by
    unfold PastP
    rw [List.take_length, hL.is x hx]
    unfold DoneR
    constructor
    · rintro (hh | hh) <;> omega
    · intro hh
      by_cases e : rkK zss O who I G zss.length x = r
      · exact .inr e
      · exact .inl (by omega)
  have hp' : ∀ v, v < zss.length → ∀ x ∈ row zss v, (PastP (rkK zss O who I G zss.length) r L L.length x.toNat ↔ DoneR (rkK zss O who I G zss.length) (r + 1) x.toNat) := fun v hv x hx => by
    obtain ⟨y, rfl, hy⟩ := hz.inG v hv x hx
    rw [Int.toNat_natCast]; exact hp y hy
  have hq : ∀ v, v < zss.length → (QueP zss O who I G (PastP (rkK zss O who I G zss.length) r L L.length) v ↔ DoneR (rkK zss O who I G zss.length) (r + 1 + 1) v) := fun v hv => by
    rw [QueP.congr (hp' v hv), doneR_succ hz.inG (r + 1) hv]
  have h0 : ∀ v, v < zss.length → ∀ x ∈ row zss v, (DoneR (rkK zss O who I G zss.length) (r + 1) x.toNat ↔ PastP (rkK zss O who I G zss.length) (r + 1) ab 0 x.toNat) := fun v hv x hx => by unfold PastP; simp
  refine ⟨⟨h.verts, fun v hv => ?_⟩, fun v hv => ?_, VertsP.nil _, fun v hv => ?_⟩
  · rw [h.is v hv, hq v hv]
    unfold DoneR
    constructor
    · rintro ⟨h1, h2⟩; omega
    · intro e; omega
  · rw [h.waits v hv, waitF_congr (hp' v hv), waitF_congr (h0 v hv)]
  · rw [← QueP.congr (h0 v hv), ← doneR_succ hz.inG (r + 1) hv]
    simp

/-- What has been handed on: every vertex of P once, with its rank. -/
structure LogP (n : Nat) (R : Nat → Int) (P : Nat → Prop) (pre : List (Nat × Nat)) : Prop where
  once : (pre.map Prod.fst).Nodup
  rank : ∀ x ∈ pre, x.1 < n ∧ R x.1 = (x.2 : Int)
  is : ∀ v, v < n → (v ∈ pre.map Prod.fst ↔ P v)

theorem LogP.len {n : Nat} {P : Nat → Prop} {pre : List (Nat × Nat)} (h : LogP n R P pre) : pre.length ≤ n := by
  have h2 : pre.map Prod.fst ⊆ List.range n := fun x hx => by
    obtain ⟨y, hy, rfl⟩ := List.mem_map.1 hx
    simp [(h.rank y hy).1]
  have := List.Nodup.length_le_of_subset h.once h2
  simpa using this
theorem LogP.snoc {n u k : Nat} {P P' : Nat → Prop} {pre : List (Nat × Nat)} (h : LogP n R P pre) (hu : u < n) (hk : R u = (k : Int)) (hP : ¬ P u) (hP' : ∀ x, P' x ↔ AddP P u x) : LogP n R P' (pre ++ [(u, k)]) where
  once := by
    rw [List.map_append, List.nodup_append]
    refine ⟨h.once, by simp, fun x hx y hy e => ?_⟩
    simp at hy
    subst hy; subst e
    exact hP ((h.is x hu).1 hx)
  rank := fun x hx => by
    rcases List.mem_append.1 hx with hx | hx
    · exact h.rank x hx
    · simp at hx; subst hx; exact ⟨hu, hk⟩
  is := fun v hv => by
    rw [List.map_append, List.mem_append, h.is v hv, hP' v]
    simp [AddP]
theorem LogP.nil (n : Nat) {P : Nat → Prop} (h : ∀ v, v < n → ¬ P v) : LogP n R P [] := ⟨by simp, fun x hx => (by cases hx), fun v hv => (by simp [h v hv])⟩
theorem LogP.congr {n : Nat} {P P' : Nat → Prop} {pre : List (Nat × Nat)} (h : LogP n R P pre) (he : ∀ v, v < n → (P v ↔ P' v)) : LogP n R P' pre := ⟨h.once, h.rank, fun v hv => (h.is v hv).trans (he v hv)⟩

end
end

end Go.Proofs.Ythelpfilgamdfaa
