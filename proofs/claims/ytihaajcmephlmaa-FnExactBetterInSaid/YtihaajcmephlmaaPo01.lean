/-
  Several texts in one: Zielonka, Draw1, Parity, Loops, Same, Inside.
-/
import Derived.Deep.AppendLies
import Derived.Test.YtihaajcmephlmaaPo00
namespace Go.Proofs.Ytihaajcmephlmaa
section
section
open Go.RowKit

/-- The rank that a vertex gets by those that there are (as the model reckons it: the least and the greatest so far). -/
def rkF (own : Bool) (I : Nat → Bool) (rk : Nat → Int) : Int → Int → List Int → Int
  | l, m, [] => if l < 0 then -1 else if own = true then l + 1 else m + 1
  | l, m, u :: us => if I u.toNat = false then rkF own I rk l m us
      else if rk u.toNat < 0 ∧ own = false then -1
      else if 0 ≤ rk u.toNat then rkF own I rk (if l < 0 ∨ rk u.toNat < l then rk u.toNat else l) (if m < rk u.toNat then rk u.toNat else m) us
      else rkF own I rk l m us

/-- Can the player force a step into A? -/
def CanP (own : Bool) (I A : Nat → Prop) (us : List Int) : Prop :=
  if own = true then ∃ u ∈ us, I u.toNat ∧ A u.toNat else (∃ u ∈ us, I u.toNat) ∧ ∀ u ∈ us, I u.toNat → A u.toNat

def ownB (O : List Int) (who : Int) (v : Nat) : Bool := decide (nth O v = who)

open Classical in
/-- The ranks up to k; -1 where there is none. -/
noncomputable def rkK (zss : List (List Int)) (O : List Int) (who : Int) (I G : Nat → Bool) : Nat → Nat → Int
  | 0, u => if I u = true ∧ G u = true then 0 else -1
  | k + 1, u => if 0 ≤ rkK zss O who I G k u then rkK zss O who I G k u
      else if I u = true ∧ CanP (ownB O who u) (fun x => I x = true) (fun x => 0 ≤ rkK zss O who I G k x) (row zss u) then (k : Int) + 1 else -1

variable {zss : List (List Int)} {O : List Int} {who : Int} {I G : Nat → Bool}

theorem rkK_bound : ∀ k u, -1 ≤ rkK zss O who I G k u ∧ rkK zss O who I G k u ≤ k
  | 0, u => by unfold rkK; split <;> simp
  | k + 1, u => by
    have h := rkK_bound k u
    unfold rkK
    split
    · constructor <;> omega
    · split <;> constructor <;> omega

theorem rkK_old {k u : Nat} (h : 0 ≤ rkK zss O who I G k u) : rkK zss O who I G (k + 1) u = rkK zss O who I G k u := by
  rw [rkK, if_pos h]
theorem rkK_new {k u : Nat} (h : rkK zss O who I G k u < 0) (h1 : 0 ≤ rkK zss O who I G (k + 1) u) : rkK zss O who I G (k + 1) u = k + 1 := by
  rw [rkK, if_neg (by omega)] at h1 ⊢
  split at h1
  · next hc => rw [if_pos hc]
  · omega
theorem rkK_mem : ∀ {k u : Nat}, 0 ≤ rkK zss O who I G k u → I u = true
  | 0, u, h => by
    rw [rkK] at h
    split at h
    · next hc => exact hc.1
    · omega
  | k + 1, u, h => by
    by_cases h0 : 0 ≤ rkK zss O who I G k u
    · exact rkK_mem h0
    · rw [rkK, if_neg h0] at h
      split at h
      · next hc => exact hc.1
      · omega
theorem rkK_small {k u : Nat} (h : 0 ≤ rkK zss O who I G (k + 1) u) (hk : rkK zss O who I G (k + 1) u ≤ k) : 0 ≤ rkK zss O who I G k u := by
  by_cases h0 : 0 ≤ rkK zss O who I G k u
  · exact h0
  · have := rkK_new (by omega) h; omega

theorem rkF_own {rk : Nat → Int} {k : Int} (hk : 0 ≤ k) : ∀ (us : List Int) (l m : Int), (∀ u ∈ us, I u.toNat = true → rk u.toNat < 0 ∨ rk u.toNat = k) → (l < 0 ∨ l = k) →
    (rkF true I rk l m us = k + 1 ↔ l = k ∨ ∃ u ∈ us, I u.toNat = true ∧ 0 ≤ rk u.toNat)
  | [], l, m, _, hl => by
    unfold rkF
    rcases hl with hl | hl
    · rw [if_pos hl]; simp; omega
    · rw [if_neg (by omega), if_pos rfl]; simp [hl]
  | u :: us, l, m, h, hl => by
    have hu := h u (by simp)
    have ht : ∀ x ∈ us, I x.toNat = true → rk x.toNat < 0 ∨ rk x.toNat = k := fun x hx => h x (by simp [hx])
    rw [rkF]
    by_cases hI : I u.toNat = false
    · rw [if_pos hI, rkF_own hk us l m ht hl]
      simp [hI]
    · have hI' : I u.toNat = true := by simpa using hI
      rw [if_neg hI, if_neg (by simp)]
      by_cases hr : 0 ≤ rk u.toNat
      · have hrk : rk u.toNat = k := by rcases hu hI' with h | h <;> omega
        rw [if_pos hr, rkF_own hk us _ _ ht (by split <;> omega)]
        constructor
        · intro _; exact .inr ⟨u, by simp, hI', hr⟩
        · intro _; left; split <;> omega
      · rw [if_neg hr, rkF_own hk us l m ht hl]
        simp [hI', hr]

theorem rkF_opp {rk : Nat → Int} {k : Int} (hk : 0 ≤ k) : ∀ (us : List Int) (l m : Int), (∀ u ∈ us, rk u.toNat ≤ k) → m ≤ k → (0 ≤ m ↔ 0 ≤ l) →
    (rkF false I rk l m us = k + 1 ↔ (∀ u ∈ us, I u.toNat = true → 0 ≤ rk u.toNat) ∧ (m = k ∨ ∃ u ∈ us, I u.toNat = true ∧ rk u.toNat = k))
  | [], l, m, _, hm, hl => by
    unfold rkF
    by_cases h : l < 0
    · rw [if_pos h]; simp; omega
    · rw [if_neg h, if_neg (by simp)]; simp
  | u :: us, l, m, h, hm, hl => by
    have hu := h u (by simp)
    have ht : ∀ x ∈ us, rk x.toNat ≤ k := fun x hx => h x (by simp [hx])
    rw [rkF]
    by_cases hI : I u.toNat = false
    · rw [if_pos hI, rkF_opp hk us l m ht hm hl]
      simp [hI]
    · have hI' : I u.toNat = true := by simpa using hI
      rw [if_neg hI]
      by_cases hr : 0 ≤ rk u.toNat
      · rw [if_neg (by omega), if_pos hr, rkF_opp hk us _ _ ht (by split <;> omega) (by split <;> split <;> omega)]
        simp only [List.mem_cons, forall_eq_or_imp, exists_eq_or_imp, hI', hr, true_and, forall_const]
        constructor
        · rintro ⟨h1, h2 | h2⟩
          · refine ⟨h1, ?_⟩
            split at h2
            · exact .inr (.inl h2)
            · exact .inl h2
          · exact ⟨h1, .inr (.inr h2)⟩
        · rintro ⟨h1, h2 | h2 | h2⟩
          · exact ⟨h1, .inl (by rw [if_neg (by omega)]; exact h2)⟩
          · refine ⟨h1, .inl ?_⟩
            split <;> omega
          · exact ⟨h1, .inr h2⟩
      · rw [if_pos ⟨by omega, rfl⟩]
        constructor
        · intro h; omega
        · intro ⟨h1, _⟩; exact absurd (h1 u (by simp) hI') hr

/-- What the model asks of a vertex at k is what the rank is. -/
theorem rkF_is {k u : Nat} (hu : rkK zss O who I G k u < 0) (hI : I u = true) : rkF (ownB O who u) I (rkK zss O who I G k) (-1) (-1) (row zss u) = k + 1 ↔ 0 ≤ rkK zss O who I G (k + 1) u := by
  have hk : (0 : Int) ≤ (k : Int) := by omega
  have h2 : 0 ≤ rkK zss O who I G (k + 1) u ↔ CanP (ownB O who u) (fun x => I x = true) (fun x => 0 ≤ rkK zss O who I G k x) (row zss u) := by
    rw [rkK, if_neg (by omega)]
    by_cases hc : CanP (ownB O who u) (fun x => I x = true) (fun x => 0 ≤ rkK zss O who I G k x) (row zss u)
    · rw [if_pos ⟨hI, hc⟩]; exact ⟨fun _ => hc, fun _ => by omega⟩
    · rw [if_neg (fun h => hc h.2)]; exact ⟨fun h => by omega, fun h => absurd h hc⟩
  rw [h2]
  have hold : ∀ j, k = j + 1 → ¬ CanP (ownB O who u) (fun x => I x = true) (fun x => 0 ≤ rkK zss O who I G j x) (row zss u) := fun j hj hc => by
    subst hj
    have hj0 : rkK zss O who I G j u < 0 := by
      by_cases h0 : 0 ≤ rkK zss O who I G j u
      · rw [rkK_old h0] at hu; omega
      · omega
    rw [rkK, if_neg (by omega), if_pos ⟨hI, hc⟩] at hu
    omega
  cases hown : ownB O who u with
  | true =>
    rw [hown] at hold
    rw [rkF_own hk (row zss u) (-1) (-1) (fun x hx hIx => ?_) (.inl (by omega))]
    · unfold CanP
      rw [if_pos rfl]
      constructor
      · rintro (h | h)
        · omega
        · exact h
      · exact .inr
    · cases k with
      | zero =>
        have := rkK_bound (zss := zss) (O := O) (who := who) (I := I) (G := G) 0 x.toNat
        omega
      | succ j =>
        by_cases h0 : 0 ≤ rkK zss O who I G (j + 1) x.toNat
        · right
          by_cases h1 : 0 ≤ rkK zss O who I G j x.toNat
          · exact absurd (by unfold CanP; rw [if_pos rfl]; exact ⟨x, hx, hIx, h1⟩) (hold j rfl)
          · rw [rkK_new (by omega) h0]; omega
        · left; omega
  | false =>
    rw [hown] at hold
    rw [rkF_opp hk (row zss u) (-1) (-1) (fun x _ => (rkK_bound k x.toNat).2) (by omega) (by omega)]
    unfold CanP
    rw [if_neg (by simp)]
    constructor
    · rintro ⟨h1, h | ⟨x, hx, hIx, _⟩⟩
      · omega
      · exact ⟨⟨x, hx, hIx⟩, h1⟩
    · rintro ⟨⟨x, hx, hIx⟩, h1⟩
      refine ⟨h1, .inr ?_⟩
      apply Classical.byContradiction
      intro hno
      cases k with
      | zero =>
        have h3 := h1 x hx hIx
        have := rkK_bound (zss := zss) (O := O) (who := who) (I := I) (G := G) 0 x.toNat
        exact hno ⟨x, hx, hIx, by omega⟩
      | succ j =>
        refine hold j rfl ?_
        unfold CanP
        rw [if_neg (by simp)]
        refine ⟨⟨x, hx, hIx⟩, fun y hy hIy => ?_⟩
        have h3 := h1 y hy hIy
        have h4 := rkK_bound (zss := zss) (O := O) (who := who) (I := I) (G := G) (j + 1) y.toNat
        refine rkK_small h3 ?_
        by_cases h5 : rkK zss O who I G (j + 1) y.toNat = ((j + 1 : Nat) : Int)
        · exact absurd ⟨y, hy, hIy, h5⟩ hno
        · omega

/-- A round that gives no rank is the last one. -/
theorem rkK_still {k : Nat} (hin : ∀ u : Nat, u < zss.length → ∀ x ∈ row zss u, ∃ v : Nat, x = (v : Int) ∧ v < zss.length) (h : ∀ u, u < zss.length → rkK zss O who I G (k + 1) u = rkK zss O who I G k u) :
    ∀ j, ∀ u, u < zss.length → rkK zss O who I G (k + j) u = rkK zss O who I G k u
  | 0, u, _ => rfl
  | j + 1, u, hu => by
    have ih := rkK_still hin h j
    rw [← h u hu]
    show rkK zss O who I G ((k + j) + 1) u = _
    by_cases h0 : 0 ≤ rkK zss O who I G (k + j) u
    · rw [rkK_old h0, ih u hu, rkK_old (by rw [← ih u hu]; exact h0)]
    · have h0' : ¬ 0 ≤ rkK zss O who I G k u := by rw [← ih u hu]; exact h0
      have hc : CanP (ownB O who u) (fun x => I x = true) (fun x => 0 ≤ rkK zss O who I G (k + j) x) (row zss u) ↔ CanP (ownB O who u) (fun x => I x = true) (fun x => 0 ≤ rkK zss O who I G k x) (row zss u) := by
        have e : ∀ x ∈ row zss u, (0 ≤ rkK zss O who I G (k + j) x.toNat ↔ 0 ≤ rkK zss O who I G k x.toNat) := fun x hx => by
          obtain ⟨v, rfl, hv⟩ := hin u hu x hx
          rw [Int.toNat_natCast, ih v hv]
        unfold CanP
        split
        · exact ⟨fun ⟨x, h1, h2, h3⟩ => ⟨x, h1, h2, (e x h1).1 h3⟩, fun ⟨x, h1, h2, h3⟩ => ⟨x, h1, h2, (e x h1).2 h3⟩⟩
        · exact ⟨fun ⟨h1, h2⟩ => ⟨h1, fun x hx hI => (e x hx).1 (h2 x hx hI)⟩, fun ⟨h1, h2⟩ => ⟨h1, fun x hx hI => (e x hx).2 (h2 x hx hI)⟩⟩
      have hk1 := h u hu
      rw [rkK, if_neg h0, rkK, if_neg h0']
      rw [rkK, if_neg h0'] at hk1
      by_cases hcc : I u = true ∧ CanP (ownB O who u) (fun x => I x = true) (fun x => 0 ≤ rkK zss O who I G k x) (row zss u)
      · rw [if_pos hcc] at hk1; omega
      · rw [if_neg (fun hh => hcc ⟨hh.1, hc.1 hh.2⟩), if_neg hcc]
end

section
open Go.RowKit

theorem markedK_more (f : Nat → Bool) (n : Nat) : (markedK f (n + 1)).length = (markedK f n).length + (if f n = true then 1 else 0) := by
  rw [markedK, List.length_append]; split <;> rfl
theorem markedK_le {f g : Nat → Bool} : ∀ n, (∀ v, v < n → f v = true → g v = true) → (markedK f n).length ≤ (markedK g n).length
  | 0, _ => Nat.le_refl _
  | n + 1, h => by
    have ih := markedK_le n fun v hv => h v (by omega)
    have hn := h n (by omega)
    rw [markedK_more, markedK_more]
    by_cases hf : f n = true
    · rw [if_pos hf, if_pos (hn hf)]; omega
    · rw [if_neg hf]; omega
theorem markedK_lt {f g : Nat → Bool} : ∀ n, (∀ v, v < n → f v = true → g v = true) → ∀ v, v < n → f v = false → g v = true → (markedK f n).length < (markedK g n).length
  | 0, _, v, hv, _, _ => absurd hv (Nat.not_lt_zero _)
  | n + 1, h, v, hv, h0, h1 => by
    rw [markedK_more, markedK_more]
    by_cases e : v = n
    · subst e
      have := markedK_le (f := f) (g := g) v fun u hu => h u (by omega)
      rw [if_neg (by rw [h0]; decide), if_pos h1]; omega
    · have ih := markedK_lt n (fun u hu => h u (by omega)) v (by omega) h0 h1
      have hn := h n (by omega)
      by_cases hf : f n = true
      · rw [if_pos hf, if_pos (hn hf)]; omega
      · rw [if_neg hf]; omega

section
variable {zss : List (List Int)} {O : List Int} {who : Int} {I G : Nat → Bool}

/-- As many rounds as vertices are enough. -/
theorem rkK_stop (hin : ∀ u : Nat, u < zss.length → ∀ x ∈ row zss u, ∃ v : Nat, x = (v : Int) ∧ v < zss.length) : ∀ u, u < zss.length → rkK zss O who I G (zss.length + 1) u = rkK zss O who I G zss.length u := by
  by_cases hex : ∃ k, k ≤ zss.length ∧ ∀ u, u < zss.length → rkK zss O who I G (k + 1) u = rkK zss O who I G k u
  · obtain ⟨k, hk, hs⟩ := hex
    intro u hu
    have h1 := rkK_still hin hs (zss.length - k) u hu
    have h2 := rkK_still hin hs (zss.length + 1 - k) u hu
    rw [show k + (zss.length - k) = zss.length by omega] at h1
    rw [show k + (zss.length + 1 - k) = zss.length + 1 by omega] at h2
    rw [h1, h2]
  · exfalso
    have key : ∀ k, k ≤ zss.length + 1 → k ≤ (markedK (fun v => decide (0 ≤ rkK zss O who I G k v)) zss.length).length := fun k => by
      induction k with
      | zero => intro _; exact Nat.zero_le _
      | succ k ih =>
        intro hk
        have h1 := ih (by omega)
        obtain ⟨u, hu, hne⟩ : ∃ u, u < zss.length ∧ rkK zss O who I G (k + 1) u ≠ rkK zss O who I G k u := by
          apply Classical.byContradiction
          intro hn
          exact hex ⟨k, by omega, fun u hu => Classical.byContradiction fun hh => hn ⟨u, hu, hh⟩⟩
        have b0 := rkK_bound (zss := zss) (O := O) (who := who) (I := I) (G := G) k u
        have b1 := rkK_bound (zss := zss) (O := O) (who := who) (I := I) (G := G) (k + 1) u
        have h0 : rkK zss O who I G k u < 0 := by
          apply Classical.byContradiction
          intro hh
          exact hne (rkK_old (by omega))
        have h2 := markedK_lt (f := fun v => decide (0 ≤ rkK zss O who I G k v)) (g := fun v => decide (0 ≤ rkK zss O who I G (k + 1) v)) zss.length
          (fun v _ hv => by
            have hv := of_decide_eq_true hv
            exact decide_eq_true (by rw [rkK_old hv]; exact hv)) u hu (decide_eq_false (by omega)) (decide_eq_true (by omega))
        omega
    have h1 := key (zss.length + 1) (Nat.le_refl _)
    have h2 := markedK_len (fun v => decide (0 ≤ rkK zss O who I G (zss.length + 1) v)) zss.length
    omega
end
end

section
open Go.RowKit

theorem CanP.mono {own : Bool} {I A B : Nat → Prop} {us : List Int} (h : CanP own I A us) (hab : ∀ u ∈ us, A u.toNat → B u.toNat) : CanP own I B us := by
  unfold CanP at *
  split at h
  · next ho => rw [if_pos ho]; obtain ⟨u, hu, h1, h2⟩ := h; exact ⟨u, hu, h1, hab u hu h2⟩
  · next ho => rw [if_neg ho]; exact ⟨h.1, fun u hu hI => hab u hu (h.2 u hu hI)⟩
theorem CanP.congr {own : Bool} {I A B : Nat → Prop} {us : List Int} (hab : ∀ u ∈ us, (A u.toNat ↔ B u.toNat)) : CanP own I A us ↔ CanP own I B us :=
  ⟨fun h => h.mono fun u hu => (hab u hu).1, fun h => h.mono fun u hu => (hab u hu).2⟩
theorem CanP.none {own : Bool} {I : Nat → Prop} {us : List Int} : ¬ CanP own I (fun _ => False) us := by
  unfold CanP
  split
  · rintro ⟨_, _, _, h⟩; exact h
  · rintro ⟨⟨u, hu, hI⟩, h⟩; exact h u hu hI

section
variable {zss : List (List Int)} {O : List Int} {who : Int} {I G : Nat → Bool}

theorem rkK_on {k u : Nat} (h : 0 ≤ rkK zss O who I G k u) : ∀ j, rkK zss O who I G (k + j) u = rkK zss O who I G k u
  | 0 => rfl
  | j + 1 => by
    have ih := rkK_on h j
    rw [← Nat.add_assoc, rkK_old (by rw [ih]; exact h), ih]

theorem rkK_back {k u : Nat} : ∀ j, 0 ≤ rkK zss O who I G (k + j) u → rkK zss O who I G (k + j) u ≤ k → 0 ≤ rkK zss O who I G k u
  | 0, h, _ => h
  | j + 1, h, hk => by
    rw [← Nat.add_assoc] at h hk
    have h1 := rkK_small h (by omega)
    rw [rkK_old h1] at hk
    exact rkK_back j h1 hk

/-- v can be forced into P in one step, or is where it should be. -/
def QueP (zss : List (List Int)) (O : List Int) (who : Int) (I G : Nat → Bool) (P : Nat → Prop) (v : Nat) : Prop :=
  I v = true ∧ (G v = true ∨ CanP (ownB O who v) (fun x => I x = true) P (row zss v))

theorem QueP.mono {P P' : Nat → Prop} {v : Nat} (h : QueP zss O who I G P v) (hp : ∀ x ∈ row zss v, P x.toNat → P' x.toNat) : QueP zss O who I G P' v :=
  ⟨h.1, h.2.imp id fun hc => hc.mono hp⟩
theorem QueP.congr {P P' : Nat → Prop} {v : Nat} (hp : ∀ x ∈ row zss v, (P x.toNat ↔ P' x.toNat)) : QueP zss O who I G P v ↔ QueP zss O who I G P' v :=
  ⟨fun h => h.mono fun x hx => (hp x hx).1, fun h => h.mono fun x hx => (hp x hx).2⟩

theorem rkK_que : ∀ (k v : Nat), 0 ≤ rkK zss O who I G (k + 1) v ↔ QueP zss O who I G (fun x => 0 ≤ rkK zss O who I G k x) v := fun k => by
  induction k with
  | zero =>
    intro v
    constructor
    · intro h
      by_cases h0 : 0 ≤ rkK zss O who I G 0 v
      · rw [rkK] at h0
        split at h0
        · next hc => exact ⟨hc.1, .inl hc.2⟩
        · omega
      · rw [rkK, if_neg h0] at h
        split at h
        · next hc => exact ⟨hc.1, .inr hc.2⟩
        · omega
    · rintro ⟨hI, h⟩
      by_cases h0 : 0 ≤ rkK zss O who I G 0 v
      · rw [rkK_old h0]; exact h0
      · rcases h with h | h
        · exact absurd (by rw [rkK, if_pos ⟨hI, h⟩]; omega) h0
        · rw [rkK, if_neg h0, if_pos ⟨hI, h⟩]; omega
  | succ k ih =>
    intro v
    constructor
    · intro h
      by_cases h0 : 0 ≤ rkK zss O who I G (k + 1) v
      · exact ((ih v).1 h0).mono fun x _ hx => by rw [rkK_old hx]; exact hx
      · rw [rkK, if_neg h0] at h
        split at h
        · next hc => exact ⟨hc.1, .inr hc.2⟩
        · omega
    · rintro ⟨hI, h⟩
      by_cases h0 : 0 ≤ rkK zss O who I G (k + 1) v
      · rw [rkK_old h0]; exact h0
      · rcases h with h | h
        · exact absurd ((ih v).2 ⟨hI, .inl h⟩) h0
        · rw [rkK, if_neg h0, if_pos ⟨hI, h⟩]; omega

/-- Every successor is a vertex. -/
def InG (zss : List (List Int)) : Prop := ∀ u : Nat, u < zss.length → ∀ x ∈ row zss u, ∃ v : Nat, x = (v : Int) ∧ v < zss.length

/-- The vertices of ranks below r. -/
def DoneR (R : Nat → Int) (r x : Nat) : Prop := 0 ≤ R x ∧ R x < r

theorem doneR_is (hin : InG zss) (k : Nat) {x : Nat} (hx : x < zss.length) : DoneR (rkK zss O who I G zss.length) (k + 1) x ↔ 0 ≤ rkK zss O who I G k x := by
  have hb := rkK_bound (zss := zss) (O := O) (who := who) (I := I) (G := G) zss.length x
  have hbk := rkK_bound (zss := zss) (O := O) (who := who) (I := I) (G := G) k x
  unfold DoneR
  by_cases hk : k ≤ zss.length
  · obtain ⟨j, hj⟩ : ∃ j, zss.length = k + j := ⟨zss.length - k, by omega⟩
    constructor
    · rintro ⟨h1, h2⟩
      rw [hj] at h1 h2
      exact rkK_back j h1 (by omega)
    · intro h
      have e := rkK_on h j
      rw [← hj] at e
      rw [e]
      exact ⟨h, by omega⟩
  · obtain ⟨j, hj⟩ : ∃ j, k = zss.length + j := ⟨k - zss.length, by omega⟩
    have e := rkK_still hin (rkK_stop (O := O) (who := who) (I := I) (G := G) hin) j x hx
    rw [← hj] at e
    rw [e]
    constructor
    · rintro ⟨h1, _⟩; exact h1
    · intro h; exact ⟨h, by omega⟩

theorem doneR_succ (hin : InG zss) (r : Nat) {v : Nat} (hv : v < zss.length) : DoneR (rkK zss O who I G zss.length) (r + 1) v ↔ QueP zss O who I G (DoneR (rkK zss O who I G zss.length) r) v := by
  rw [doneR_is hin r hv]
  cases r with
  | zero =>
    rw [rkK]
    constructor
    · intro h
      split at h
      · next hc => exact ⟨hc.1, .inl hc.2⟩
      · omega
    · rintro ⟨hI, h | h⟩
      · rw [if_pos ⟨hI, h⟩]; omega
      · exact absurd ((CanP.congr fun u _ => by unfold DoneR; constructor <;> intro hh <;> first | omega | exact hh.elim).1 h) CanP.none
  | succ k =>
    rw [rkK_que]
    exact QueP.congr fun x hx => by
      obtain ⟨y, rfl, hy⟩ := hin v hv x hx
      rw [Int.toNat_natCast]
      exact (doneR_is hin k hy).symm

open Classical in
/-- What v still waits for when P have had their turn. -/
noncomputable def waitF (zss : List (List Int)) (O : List Int) (who : Int) (I G : Nat → Bool) (P : Nat → Prop) (v : Nat) : Int :=
  if I v = true ∧ G v = false then
    if ownB O who v = true then (if ∃ x ∈ row zss v, I x.toNat = true ∧ P x.toNat then 0 else 1)
    else (((row zss v).filter (fun x => I x.toNat && !decide (P x.toNat))).length : Int)
  else 0

theorem waitF_bound (P : Nat → Prop) (v : Nat) : 0 ≤ waitF zss O who I G P v ∧ waitF zss O who I G P v ≤ (row zss v).length + 1 := by
  have := fun p => List.length_filter_le (p : Int → Bool) (row zss v)
  unfold waitF
  split
  · split
    · split <;> constructor <;> omega
    · constructor
      · omega
      · have := this (fun x => I x.toNat && !@decide (P x.toNat) (Classical.propDecidable _)); omega
  · constructor <;> omega

theorem waitF_congr {P P' : Nat → Prop} {v : Nat} (hp : ∀ x ∈ row zss v, (P x.toNat ↔ P' x.toNat)) : waitF zss O who I G P v = waitF zss O who I G P' v := by
  have e1 : (∃ x ∈ row zss v, I x.toNat = true ∧ P x.toNat) ↔ (∃ x ∈ row zss v, I x.toNat = true ∧ P' x.toNat) :=
    ⟨fun ⟨x, hx, h1, h2⟩ => ⟨x, hx, h1, (hp x hx).1 h2⟩, fun ⟨x, hx, h1, h2⟩ => ⟨x, hx, h1, (hp x hx).2 h2⟩⟩
  have e2 : (row zss v).filter (fun x => I x.toNat && !@decide (P x.toNat) (Classical.propDecidable _)) = (row zss v).filter (fun x => I x.toNat && !@decide (P' x.toNat) (Classical.propDecidable _)) :=
    List.filter_congr fun x hx => by
      by_cases h : P x.toNat
      · simp [h, (hp x hx).1 h]
      · have h' : ¬ P' x.toNat := fun hh => h ((hp x hx).2 hh)
        simp [h, h']
  unfold waitF
  rw [e2]
  by_cases h1 : ∃ x ∈ row zss v, I x.toNat = true ∧ P x.toNat
  · rw [if_pos h1, if_pos (e1.1 h1)]
  · rw [if_neg h1, if_neg (fun hh => h1 (e1.2 hh))]

/-- A vertex with a successor in I waits for nothing just when it can be forced. -/
theorem waitF_zero {P : Nat → Prop} {v : Nat} (hI : I v = true) (hG : G v = false) (hs : ∃ x ∈ row zss v, I x.toNat = true) :
    waitF zss O who I G P v = 0 ↔ CanP (ownB O who v) (fun x => I x = true) P (row zss v) := by
  unfold waitF CanP
  rw [if_pos ⟨hI, hG⟩]
  by_cases ho : ownB O who v = true
  · rw [if_pos ho, if_pos ho]
    split
    · next h => exact ⟨fun _ => h, fun _ => rfl⟩
    · next h => exact ⟨fun hh => absurd hh (by omega), fun hh => absurd hh h⟩
  · rw [if_neg ho, if_neg ho]
    rw [Int.natCast_eq_zero, List.length_eq_zero_iff, List.filter_eq_nil_iff]
    constructor
    · intro h
      refine ⟨hs, fun x hx hIx => ?_⟩
      have := h x hx
      simp [hIx] at this
      exact this
    · rintro ⟨_, h⟩ x hx hh
      simp at hh
      exact hh.2 (h x hx hh.1)

theorem waitF_out {P : Nat → Prop} {v : Nat} (h : ¬ (I v = true ∧ G v = false)) : waitF zss O who I G P v = 0 := by unfold waitF; rw [if_neg h]

/-- One more has its turn. -/
def AddP (P : Nat → Prop) (u : Nat) : Nat → Prop := fun x => P x ∨ x = u

theorem filter_one_less {p q : Int → Bool} {u : Int} : ∀ {us : List Int}, us.Nodup → u ∈ us → p u = true → q u = false → (∀ x ∈ us, x ≠ u → p x = q x) → (us.filter p).length = (us.filter q).length + 1
  | [], _, h, _, _, _ => by cases h
  | y :: ys, hn, hu, hp, hq, he => by
    rw [List.nodup_cons] at hn
    by_cases e : y = u
    · subst e
      rw [List.filter_cons_of_pos hp, List.filter_cons_of_neg (by rw [hq]; decide), List.filter_congr fun x hx => he x (by simp [hx]) (fun e => hn.1 (by rw [← e]; exact hx))]
      rfl
    · have hu' : u ∈ ys := by
        rcases List.mem_cons.1 hu with h | h
        · exact absurd h.symm e
        · exact h
      have ih := filter_one_less hn.2 hu' hp hq fun x hx => he x (by simp [hx])
      have hy := he y (by simp) e
      by_cases h : p y = true
      · rw [List.filter_cons_of_pos h, List.filter_cons_of_pos (by rw [← hy]; exact h)]; simp [ih]
      · rw [List.filter_cons_of_neg h, List.filter_cons_of_neg (by rw [← hy]; exact h)]; exact ih

/-- Who waits for u waits for one less. -/
theorem waitF_hit {P : Nat → Prop} {u v : Nat} (hn : (row zss v).Nodup) (hpos : ∀ x ∈ row zss v, 0 ≤ x) (hu : (u : Int) ∈ row zss v) (hI : I u = true) (hP : ¬ P u) :
    (waitF zss O who I G P v = 0 → waitF zss O who I G (AddP P u) v = 0) ∧ (waitF zss O who I G P v ≠ 0 → waitF zss O who I G (AddP P u) v = waitF zss O who I G P v - 1) := by
  unfold waitF
  by_cases hc : I v = true ∧ G v = false
  · rw [if_pos hc, if_pos hc]
    by_cases ho : ownB O who v = true
    · rw [if_pos ho, if_pos ho]
      have h1 : ∃ x ∈ row zss v, I x.toNat = true ∧ AddP P u x.toNat := ⟨u, hu, by rw [Int.toNat_natCast]; exact hI, .inr (Int.toNat_natCast u)⟩
      rw [if_pos h1]
      refine ⟨fun _ => rfl, fun h => ?_⟩
      split at h
      · exact absurd rfl h
      · next hh => rw [if_neg hh]; rfl
    · rw [if_neg ho, if_neg ho]
      have e := filter_one_less (p := fun x => I x.toNat && !@decide (P x.toNat) (Classical.propDecidable _)) (q := fun x => I x.toNat && !@decide (AddP P u x.toNat) (Classical.propDecidable _)) hn hu (by simp [hI, hP]) (by simp [AddP])
        (fun x hx hne => by
          have hx0 := hpos x hx
          have hxu : x.toNat ≠ u := by omega
          by_cases hh : P x.toNat
          · simp [AddP, hh]
          · simp [AddP, hxu, hh])
      constructor
      · intro h; omega
      · intro _; omega
  · rw [if_neg hc, if_neg hc]
    exact ⟨fun _ => rfl, fun h => absurd rfl h⟩

theorem addP_miss {P : Nat → Prop} {u v : Nat} (hpos : ∀ x ∈ row zss v, 0 ≤ x) (hu : (u : Int) ∉ row zss v) : ∀ x ∈ row zss v, (P x.toNat ↔ AddP P u x.toNat) := fun x hx => by
  refine ⟨.inl, fun h => ?_⟩
  rcases h with h | h
  · exact h
  · refine absurd ?_ hu
    rw [← h, Int.toNat_of_nonneg (hpos x hx)]; exact hx

theorem predsK_iff (zss : List (List Int)) (u : Int) : ∀ (n : Nat) (x : Int), x ∈ predsK zss u n ↔ ∃ v : Nat, x = (v : Int) ∧ v < n ∧ u ∈ row zss v
  | 0, x => by simp [predsK]
  | n + 1, x => by
    rw [predsK, List.mem_append, predsK_iff zss u n x]
    constructor
    · rintro (⟨v, h1, h2, h3⟩ | h)
      · exact ⟨v, h1, by omega, h3⟩
      · split at h
        · next hh => exact ⟨n, by simpa using h, by omega, hasB_iff.1 hh⟩
        · cases h
    · rintro ⟨v, h1, h2, h3⟩
      by_cases e : v = n
      · subst e
        right
        rw [if_pos (hasB_iff.2 h3)]
        simp [h1]
      · exact .inl ⟨v, h1, by omega, h3⟩
theorem predsK_nodup (zss : List (List Int)) (u : Int) : ∀ n, (predsK zss u n).Nodup
  | 0 => by simp [predsK]
  | n + 1 => by
    rw [predsK, List.nodup_append]
    refine ⟨predsK_nodup zss u n, by split <;> simp, fun x hx y hy e => ?_⟩
    subst e
    have h1 := predsK_mem zss u n x hx
    split at hy
    · simp at hy; omega
    · cases hy

/-- Vertices, none of them twice. -/
structure VertsP (n : Nat) (L : List Int) : Prop where
  once : L.Nodup
  all : ∀ x ∈ L, ∃ v : Nat, x = (v : Int) ∧ v < n

theorem VertsP.len {n : Nat} {L : List Int} (h : VertsP n L) : L.length ≤ n := by
  have h1 : (L.map Int.toNat).Nodup := by
    rw [List.Nodup, List.pairwise_map]
    exact List.Pairwise.imp_of_mem (fun {a b} ha hb hne => by
      obtain ⟨v, rfl, _⟩ := h.all a ha
      obtain ⟨u, rfl, _⟩ := h.all b hb
      simp; omega) h.once
  have h2 : L.map Int.toNat ⊆ List.range n := fun x hx => by
    obtain ⟨y, hy, rfl⟩ := List.mem_map.1 hx
    obtain ⟨v, rfl, hv⟩ := h.all y hy
    simp [hv]
  have := List.Nodup.length_le_of_subset h1 h2
  simpa using this
theorem VertsP.at {n : Nat} {L : List Int} (h : VertsP n L) {k : Nat} (hk : k < L.length) : ∃ v : Nat, nth L k = (v : Int) ∧ v < n := h.all _ (nth_mem hk)
theorem VertsP.fits {n : Nat} {L : List Int} (h : VertsP n L) (hn : n ≤ 1048576) : ∀ k, k < L.length → Fits (nth L k) := fun k hk => by
  obtain ⟨v, h1, h2⟩ := h.at hk; rw [h1]; unfold Fits; omega
theorem VertsP.nil (n : Nat) : VertsP n [] := ⟨List.nodup_nil, fun x hx => by cases hx⟩
theorem VertsP.snoc {n v : Nat} {L : List Int} (h : VertsP n L) (hv : v < n) (hn : (v : Int) ∉ L) : VertsP n (L ++ [(v : Int)]) :=
  ⟨List.nodup_append.2 ⟨h.once, by simp, fun x hx y hy e => hn (by simp at hy; rw [← hy, ← e]; exact hx)⟩, fun x hx => by
    rcases List.mem_append.1 hx with hx | hx
    · exact h.all x hx
    · exact ⟨v, by simpa using hx, hv⟩⟩

/-- A layer: just the vertices of the rank r. -/
structure LayP (n : Nat) (R : Nat → Int) (r : Nat) (L : List Int) : Prop where
  verts : VertsP n L
  is : ∀ v : Nat, v < n → ((v : Int) ∈ L ↔ R v = r)

/-- Those of lower rank, and the first i of the layer. -/
def PastP (R : Nat → Int) (r : Nat) (L : List Int) (i : Nat) : Nat → Prop := fun x => DoneR R r x ∨ (x : Int) ∈ L.take i

/-- Between two vertices of the layer r: f is what all wait for, ab are those that come next. -/
structure MidP (zss : List (List Int)) (O : List Int) (who : Int) (I G : Nat → Bool) (R : Nat → Int) (r i : Nat) (L ab : List Int) (f : Nat → Int) : Prop where
  waits : ∀ v, v < zss.length → f v = waitF zss O who I G (PastP R r L i) v
  verts : VertsP zss.length ab
  is : ∀ v : Nat, v < zss.length → ((v : Int) ∈ ab ↔ QueP zss O who I G (PastP R r L i) v ∧ ¬ DoneR R (r + 1) v)

/-- While the predecessors vs of the vertex u are read. -/
structure InP (zss : List (List Int)) (O : List Int) (who : Int) (I G : Nat → Bool) (R : Nat → Int) (r u j : Nat) (P : Nat → Prop) (ab : List Int) (f : Nat → Int) : Prop where
  waits : ∀ v, v < zss.length → f v = if (v : Int) ∈ (predsK zss u zss.length).take j then waitF zss O who I G (AddP P u) v else waitF zss O who I G P v
  verts : VertsP zss.length ab
  is : ∀ v : Nat, v < zss.length → ((v : Int) ∈ ab ↔ (QueP zss O who I G P v ∨ ((v : Int) ∈ (predsK zss u zss.length).take j ∧ QueP zss O who I G (AddP P u) v)) ∧ ¬ DoneR R (r + 1) v)

end

/-- What a graph's rows are. -/
structure RowsP (zss : List (List Int)) : Prop where
  inG : InG zss
  once : ∀ v, v < zss.length → (row zss v).Nodup

theorem RowsP.pos {zss : List (List Int)} (h : RowsP zss) {v : Nat} (hv : v < zss.length) : ∀ x ∈ row zss v, 0 ≤ x := fun x hx => by
  obtain ⟨y, rfl, _⟩ := h.inG v hv x hx; omega

theorem rowsP_of {O : List Int} {zss : List (List Int)} (h : ArenaP O zss) : RowsP zss where
  inG := fun u hu x hx => by
    have hr := (h.2.2.2 u (by have := h.2.2.1; omega)).2.2.2
    obtain ⟨k, hk, e⟩ := mem_nth.1 hx
    obtain ⟨h1, h2, _⟩ := setB_bounds hr hk
    have := h.2.2.1
    exact ⟨x.toNat, by omega, by omega⟩
  once := fun v hv => by
    have hr := (h.2.2.2 v (by have := h.2.2.1; omega)).2.2.2
    rw [List.Nodup, List.pairwise_iff_getElem]
    intro i j hi hj hij e
    have hb := (setB_bounds hr hj).2.2 i hij
    rw [nth_eq hi, nth_eq hj] at hb
    omega

section
variable {zss : List (List Int)} {O : List Int} {who : Int} {I G : Nat → Bool} {r : Nat}

theorem take_snoc {L : List Int} {i : Nat} (hi : i < L.length) : L.take (i + 1) = L.take i ++ [nth L i] := by
  rw [List.take_add_one, List.getElem?_eq_getElem hi, nth_eq hi]; rfl

theorem pastP_succ {R : Nat → Int} {L : List Int} {i u : Nat} (hi : i < L.length) (hu : nth L i = (u : Int)) (x : Nat) : PastP R r L (i + 1) x ↔ AddP (PastP R r L i) u x := by
  unfold PastP AddP
  rw [take_snoc hi, hu, List.mem_append]
  simp only [List.mem_singleton, Int.natCast_inj]
  exact or_assoc.symm

theorem LayP.fresh {n : Nat} {R : Nat → Int} {L : List Int} (h : LayP n R r L) {i u : Nat} (hi : i < L.length) (hu : nth L i = (u : Int)) (hun : u < n) : R u = r ∧ ¬ PastP R r L i u := by
  have h1 : R u = r := (h.is u hun).1 (by rw [← hu]; exact nth_mem hi)
  refine ⟨h1, ?_⟩
  rintro (hh | hh)
  · unfold DoneR at hh; omega
  · have hn := h.verts.once
    rw [← List.take_append_drop i L, List.nodup_append] at hn
    refine hn.2.2 _ hh _ ?_ rfl
    rw [← hu, List.mem_iff_getElem?]
    exact ⟨0, by rw [List.getElem?_drop, Nat.add_zero, List.getElem?_eq_getElem hi, nth_eq hi]⟩

theorem InP.start {R : Nat → Int} {L ab : List Int} {f : Nat → Int} {i u : Nat} (h : MidP zss O who I G R r i L ab f) : InP zss O who I G R r u 0 (PastP R r L i) ab f where
  waits := fun v hv => by rw [List.take_zero, if_neg (by simp)]; exact h.waits v hv
  verts := h.verts
  is := fun v hv => by rw [h.is v hv, List.take_zero]; simp

theorem InP.full {R : Nat → Int} {L ab : List Int} {f : Nat → Int} {i u : Nat} (hz : RowsP zss) (hi : i < L.length) (hu : nth L i = (u : Int)) (h : InP zss O who I G R r u (predsK zss u zss.length).length (PastP R r L i) ab f) : MidP zss O who I G R r (i + 1) L ab f where
  waits := fun v hv => by
    rw [h.waits v hv, List.take_length, waitF_congr fun x _ => pastP_succ hi hu x.toNat]
    by_cases hm : (u : Int) ∈ row zss v
    · rw [if_pos ((predsK_iff _ _ _ _).2 ⟨v, rfl, hv, hm⟩)]
    · rw [if_neg (fun hh => by obtain ⟨v', e, _, h3⟩ := (predsK_iff _ _ _ _).1 hh; rw [Int.natCast_inj.1 e] at hm; exact hm h3)]
      exact waitF_congr (addP_miss (hz.pos hv) hm)
  verts := h.verts
  is := fun v hv => by
    rw [h.is v hv, List.take_length, QueP.congr (P := PastP R r L (i + 1)) fun x _ => pastP_succ hi hu x.toNat]
    refine and_congr ⟨fun hh => ?_, fun hh => ?_⟩ Iff.rfl
    · rcases hh with hh | hh
      · exact hh.mono fun x _ => .inl
      · exact hh.2
    · by_cases hm : (u : Int) ∈ row zss v
      · exact .inr ⟨(predsK_iff _ _ _ _).2 ⟨v, rfl, hv, hm⟩, hh⟩
      · exact .inl ((QueP.congr (addP_miss (hz.pos hv) hm)).2 hh)

variable {R : Nat → Int}

theorem preds_at {u j v : Nat} (hj : j < (predsK zss u zss.length).length) (hv : nth (predsK zss u zss.length) j = (v : Int)) : v < zss.length ∧ (u : Int) ∈ row zss v ∧ (v : Int) ∉ (predsK zss u zss.length).take j := by
  obtain ⟨v', h1, h2, h3⟩ := (predsK_iff _ _ _ _).1 (nth_mem hj)
  rw [hv] at h1
  obtain rfl := Int.natCast_inj.1 h1
  refine ⟨h2, h3, fun hh => ?_⟩
  have hn := predsK_nodup zss u zss.length
  rw [← List.take_append_drop j (predsK zss u zss.length), List.nodup_append] at hn
  refine hn.2.2 _ hh _ ?_ rfl
  rw [← hv, List.mem_iff_getElem?]
  exact ⟨0, by rw [List.getElem?_drop, Nat.add_zero, List.getElem?_eq_getElem hj, nth_eq hj]⟩

/-- The vertex v waits for nothing: it is passed over. -/
theorem InP.pass {P : Nat → Prop} {ab : List Int} {f : Nat → Int} {u j v : Nat} (hz : RowsP zss) (h : InP zss O who I G R r u j P ab f) (hIu : I u = true) (hP : ¬ P u)
    (hj : j < (predsK zss u zss.length).length) (hv : nth (predsK zss u zss.length) j = (v : Int)) (hf : f v = 0) : InP zss O who I G R r u (j + 1) P ab f := by
  obtain ⟨hvn, hm, hno⟩ := preds_at hj hv
  have hw0 : waitF zss O who I G P v = 0 := by rw [← hf, h.waits v hvn, if_neg hno]
  have hw1 := (waitF_hit (hz.once v hvn) (hz.pos hvn) hm hIu hP).1 hw0
  have hq : QueP zss O who I G (AddP P u) v → QueP zss O who I G P v := fun hq => by
    refine ⟨hq.1, ?_⟩
    by_cases hG : G v = true
    · exact .inl hG
    · exact .inr ((waitF_zero hq.1 (by simpa using hG) ⟨u, hm, by rw [Int.toNat_natCast]; exact hIu⟩).1 hw0)
  refine ⟨fun x hx => ?_, h.verts, fun x hx => ?_⟩
  · rw [h.waits x hx, take_snoc hj, hv]
    by_cases e : x = v
    · subst e
      rw [if_neg hno, if_pos (by simp), hw0, hw1]
    · have e' : ((x : Int) = v) ↔ False := ⟨fun h => e (Int.natCast_inj.1 h), False.elim⟩
      simp only [List.mem_append, List.mem_singleton, e', or_false]
  · rw [h.is x hx, take_snoc hj, hv]
    refine and_congr ⟨fun hh => hh.imp id fun hh => ⟨by simp [hh.1], hh.2⟩, fun hh => ?_⟩ Iff.rfl
    rcases hh with hh | ⟨h1, h2⟩
    · exact .inl hh
    · rw [List.mem_append] at h1
      rcases h1 with h1 | h1
      · exact .inr ⟨h1, h2⟩
      · obtain rfl := Int.natCast_inj.1 (List.mem_singleton.1 h1)
        exact .inl (hq h2)

/-- The vertex v waits for one less, and for more. -/
theorem InP.less {P : Nat → Prop} {ab : List Int} {f : Nat → Int} {u j v : Nat} (hz : RowsP zss) (h : InP zss O who I G R r u j P ab f) (hIu : I u = true) (hP : ¬ P u)
    (hj : j < (predsK zss u zss.length).length) (hv : nth (predsK zss u zss.length) j = (v : Int)) (hf : f v ≠ 0) (hf1 : f v - 1 ≠ 0) : InP zss O who I G R r u (j + 1) P ab (fun x => if x = v then f v - 1 else f x) := by
  obtain ⟨hvn, hm, hno⟩ := preds_at hj hv
  have ew : f v = waitF zss O who I G P v := by rw [h.waits v hvn, if_neg hno]
  have hw1 := (waitF_hit (hz.once v hvn) (hz.pos hvn) hm hIu hP).2 (by rw [← ew]; exact hf)
  have hin : I v = true ∧ G v = false := Classical.byContradiction fun hc => hf (by rw [ew, waitF_out hc])
  have hq : ¬ QueP zss O who I G (AddP P u) v := fun hq => by
    rcases hq.2 with hG | hc
    · rw [hin.2] at hG; cases hG
    · refine hf1 ?_
      rw [ew, ← hw1]
      exact (waitF_zero hin.1 hin.2 ⟨u, hm, by rw [Int.toNat_natCast]; exact hIu⟩).2 hc
  refine ⟨fun x hx => ?_, h.verts, fun x hx => ?_⟩
  · rw [take_snoc hj, hv]
    by_cases e : x = v
    · subst e
      rw [if_pos rfl, if_pos (by simp), hw1, ew]
    · have e' : ((x : Int) = v) ↔ False := ⟨fun h => e (Int.natCast_inj.1 h), False.elim⟩
      rw [if_neg e, h.waits x hx]
      simp only [List.mem_append, List.mem_singleton, e', or_false]
  · rw [h.is x hx, take_snoc hj, hv]
    refine and_congr ⟨fun hh => hh.imp id fun hh => ⟨by simp [hh.1], hh.2⟩, fun hh => ?_⟩ Iff.rfl
    rcases hh with hh | ⟨h1, h2⟩
    · exact .inl hh
    · rw [List.mem_append] at h1
      rcases h1 with h1 | h1
      · exact .inr ⟨h1, h2⟩
      · obtain rfl := Int.natCast_inj.1 (List.mem_singleton.1 h1)
        exact absurd h2 hq

/-- The vertex v waits for one less, and for nothing more: it comes next. -/
theorem InP.next {P : Nat → Prop} {ab : List Int} {f : Nat → Int} {u j v : Nat} (hz : RowsP zss) (h : InP zss O who I G R r u j P ab f) (hIu : I u = true) (hP : ¬ P u) (hd : ∀ x, x < zss.length → DoneR R (r + 1) x → QueP zss O who I G P x)
    (hj : j < (predsK zss u zss.length).length) (hv : nth (predsK zss u zss.length) j = (v : Int)) (hf : f v ≠ 0) (hf1 : f v - 1 = 0) : InP zss O who I G R r u (j + 1) P (ab ++ [(v : Int)]) (fun x => if x = v then f v - 1 else f x) := by
  obtain ⟨hvn, hm, hno⟩ := preds_at hj hv
  have ew : f v = waitF zss O who I G P v := by rw [h.waits v hvn, if_neg hno]
  have hw1 := (waitF_hit (hz.once v hvn) (hz.pos hvn) hm hIu hP).2 (by rw [← ew]; exact hf)
  have hin : I v = true ∧ G v = false := Classical.byContradiction fun hc => hf (by rw [ew, waitF_out hc])
  have hs : ∃ x ∈ row zss v, I x.toNat = true := ⟨u, hm, by rw [Int.toNat_natCast]; exact hIu⟩
  have hq : QueP zss O who I G (AddP P u) v := ⟨hin.1, .inr ((waitF_zero hin.1 hin.2 hs).1 (by rw [hw1, ← ew]; exact hf1))⟩
  have hq0 : ¬ QueP zss O who I G P v := fun hq => by
    rcases hq.2 with hG | hc
    · rw [hin.2] at hG; cases hG
    · exact hf (by rw [ew]; exact (waitF_zero hin.1 hin.2 hs).2 hc)
  have hnd : ¬ DoneR R (r + 1) v := fun hh => hq0 (hd v hvn hh)
  have hna : (v : Int) ∉ ab := fun hh => by
    rcases ((h.is v hvn).1 hh).1 with h1 | h1
    · exact hq0 h1
    · exact hno h1.1
  refine ⟨fun x hx => ?_, h.verts.snoc hvn hna, fun x hx => ?_⟩
  · rw [take_snoc hj, hv]
    by_cases e : x = v
    · subst e
      rw [if_pos rfl, if_pos (by simp), hw1, ew]
    · have e' : ((x : Int) = v) ↔ False := ⟨fun h => e (Int.natCast_inj.1 h), False.elim⟩
      rw [if_neg e, h.waits x hx]
      simp only [List.mem_append, List.mem_singleton, e', or_false]
  · rw [List.mem_append, h.is x hx, take_snoc hj, hv]
    constructor
    · rintro (hh | hh)
      · exact ⟨hh.1.imp id fun hh => ⟨by simp [hh.1], hh.2⟩, hh.2⟩
      · obtain rfl := Int.natCast_inj.1 (List.mem_singleton.1 hh)
        exact ⟨.inr ⟨by simp, hq⟩, hnd⟩
    · rintro ⟨hh, hh2⟩
      rcases hh with hh | ⟨h1, h2⟩
      · exact .inl ⟨.inl hh, hh2⟩
      · rw [List.mem_append] at h1
        rcases h1 with h1 | h1
        · exact .inl ⟨.inr ⟨h1, h2⟩, hh2⟩
        · exact .inr h1

/-- When the whole layer has had its turn, the next one lies ready. -/
theorem MidP.full {L ab : List Int} {f : Nat → Int} (hz : RowsP zss) (hL : LayP zss.length (rkK zss O who I G zss.length) r L) (h : MidP zss O who I G (rkK zss O who I G zss.length) r L.length L ab f) :
    LayP zss.length (rkK zss O who I G zss.length) (r + 1) ab ∧ MidP zss O who I G (rkK zss O who I G zss.length) (r + 1) 0 ab [] f := by
  have hp : ∀ x, x < zss.length → (PastP (rkK zss O who I G zss.length) r L L.length x ↔ DoneR (rkK zss O who I G zss.length) (r + 1) x) := fun x hx => by
    unfold PastP
    rw [List.take_length, hL.is x hx]
    unfold DoneR
    constructor
    · rintro (hh | hh) <;> omega
    · intro hh
      by_cases e : rkK zss O who I G zss.length x = r
      · exact .inr e
      · exact .inl (by omega)
  have hp' : ∀ v, v < zss.length → ∀ x ∈ row zss v, (PastP (rkK zss O who I G zss.length) r L L.length x.toNat ↔ DoneR (rkK zss O who I G zss.length) (r + 1) x.toNat) := fun v hv x hx => by
    obtain ⟨y, rfl, hy⟩ := hz.inG v hv x hx
    rw [Int.toNat_natCast]; exact hp y hy
  have hq : ∀ v, v < zss.length → (QueP zss O who I G (PastP (rkK zss O who I G zss.length) r L L.length) v ↔ DoneR (rkK zss O who I G zss.length) (r + 1 + 1) v) := fun v hv => by
    rw [QueP.congr (hp' v hv), doneR_succ hz.inG (r + 1) hv]
  have h0 : ∀ v, v < zss.length → ∀ x ∈ row zss v, (DoneR (rkK zss O who I G zss.length) (r + 1) x.toNat ↔ PastP (rkK zss O who I G zss.length) (r + 1) ab 0 x.toNat) := fun v hv x hx => by unfold PastP; simp
  refine ⟨⟨h.verts, fun v hv => ?_⟩, fun v hv => ?_, VertsP.nil _, fun v hv => ?_⟩
  · rw [h.is v hv, hq v hv]
    unfold DoneR
    constructor
    · rintro ⟨h1, h2⟩; omega
    · intro e; omega
  · rw [h.waits v hv, waitF_congr (hp' v hv), waitF_congr (h0 v hv)]
  · rw [← QueP.congr (h0 v hv), ← doneR_succ hz.inG (r + 1) hv]
    simp

/-- What has been handed on: every vertex of P once, with its rank. -/
structure LogP (n : Nat) (R : Nat → Int) (P : Nat → Prop) (pre : List (Nat × Nat)) : Prop where
  once : (pre.map Prod.fst).Nodup
  rank : ∀ x ∈ pre, x.1 < n ∧ R x.1 = (x.2 : Int)
  is : ∀ v, v < n → (v ∈ pre.map Prod.fst ↔ P v)

theorem LogP.len {n : Nat} {P : Nat → Prop} {pre : List (Nat × Nat)} (h : LogP n R P pre) : pre.length ≤ n := by
  have h2 : pre.map Prod.fst ⊆ List.range n := fun x hx => by
    obtain ⟨y, hy, rfl⟩ := List.mem_map.1 hx
    simp [(h.rank y hy).1]
  have := List.Nodup.length_le_of_subset h.once h2
  simpa using this
theorem LogP.snoc {n u k : Nat} {P P' : Nat → Prop} {pre : List (Nat × Nat)} (h : LogP n R P pre) (hu : u < n) (hk : R u = (k : Int)) (hP : ¬ P u) (hP' : ∀ x, P' x ↔ AddP P u x) : LogP n R P' (pre ++ [(u, k)]) where
  once := by
    rw [List.map_append, List.nodup_append]
    refine ⟨h.once, by simp, fun x hx y hy e => ?_⟩
    simp at hy
    subst hy; subst e
    exact hP ((h.is x hu).1 hx)
  rank := fun x hx => by
    rcases List.mem_append.1 hx with hx | hx
    · exact h.rank x hx
    · simp at hx; subst hx; exact ⟨hu, hk⟩
  is := fun v hv => by
    rw [List.map_append, List.mem_append, h.is v hv, hP' v]
    simp [AddP]
theorem LogP.nil (n : Nat) {P : Nat → Prop} (h : ∀ v, v < n → ¬ P v) : LogP n R P [] := ⟨by simp, fun x hx => (by cases hx), fun v hv => (by simp [h v hv])⟩
theorem LogP.congr {n : Nat} {P P' : Nat → Prop} {pre : List (Nat × Nat)} (h : LogP n R P pre) (he : ∀ v, v < n → (P v ↔ P' v)) : LogP n R P' pre := ⟨h.once, h.rank, fun v hv => (h.is v hv).trans (he v hv)⟩

end
end
end

section
open Go.RowKit

/-- A way that comes back to where it began. -/
structure LoopP (E : Nat → Nat → Prop) (c : Nat → Nat) (L : Nat) : Prop where
  pos : 0 < L
  per : ∀ i, c (i + L) = c i
  step : ∀ i, E (c i) (c (i + 1))

/-- Every loop is won by who. -/
def WinE (E : Nat → Nat → Prop) (p : Nat → Int) (who : Int) : Prop := ∀ c L, LoopP E c L → ∀ i, (∀ j, p (c j) ≤ p (c i)) → p (c i) % 2 = who

theorem LoopP.far {E : Nat → Nat → Prop} {c : Nat → Nat} {L : Nat} (h : LoopP E c L) (j : Nat) : ∀ k, c (j + k * L) = c j
  | 0 => by rw [Nat.zero_mul, Nat.add_zero]
  | k + 1 => by rw [Nat.succ_mul, ← Nat.add_assoc, h.per, LoopP.far h j k]
/-- What a loop cannot leave holds all of it. -/
theorem LoopP.all {E : Nat → Nat → Prop} {c : Nat → Nat} {L : Nat} (h : LoopP E c L) {S : Nat → Prop} {i : Nat} (hi : S (c i)) (hs : ∀ v u, S v → E v u → S u) : ∀ j, S (c j) := by
  have hf : ∀ k, S (c (i + k)) := fun k => by
    induction k with
    | zero => exact hi
    | succ k ih => exact hs _ _ ih (h.step (i + k))
  intro j
  rw [← h.far j i]
  have hp := h.pos
  have hle : i ≤ j + i * L := by
    have : i * 1 ≤ i * L := Nat.mul_le_mul_left i hp
    omega
  obtain ⟨k, hk⟩ : ∃ k, j + i * L = i + k := ⟨j + i * L - i, by omega⟩
  rw [hk]
  exact hf k
/-- A loop that meets A meets its ground, where each step off the ground goes down in A. -/
theorem LoopP.ground {E : Nat → Nat → Prop} {c : Nat → Nat} {L : Nat} (h : LoopP E c L) {A G : Nat → Prop} {r : Nat → Nat} (hd : ∀ v u, A v → ¬ G v → E v u → A u ∧ r u < r v) : ∀ (m i : Nat), r (c i) ≤ m → A (c i) → ∃ j, G (c j)
  | m, i, hm, ha => by
    by_cases hg : G (c i)
    · exact ⟨i, hg⟩
    · obtain ⟨h1, h2⟩ := hd _ _ ha hg (h.step i)
      cases m with
      | zero => omega
      | succ m => exact LoopP.ground h hd m (i + 1) (by omega) h1

section
variable {zss : List (List Int)} {O : List Int}

/-- Each vertex of a part has a successor in it. -/
def TotalP (zss : List (List Int)) (I : Nat → Bool) : Prop := ∀ v, v < zss.length → I v = true → ∃ x ∈ row zss v, I x.toNat = true

/-- Who is attracted. -/
noncomputable def attrB (zss : List (List Int)) (O : List Int) (who : Int) (I G : Nat → Bool) (v : Nat) : Bool := decide (0 ≤ rkK zss O who I G zss.length v)
theorem attrB_iff {who : Int} {I G : Nat → Bool} {v : Nat} : attrB zss O who I G v = true ↔ 0 ≤ rkK zss O who I G zss.length v := by unfold attrB; rw [decide_eq_true_iff]
theorem attrB_sub {who : Int} {I G : Nat → Bool} {v : Nat} (h : attrB zss O who I G v = true) : I v = true := rkK_mem (attrB_iff.1 h)

theorem attr_done {who : Int} {I G : Nat → Bool} (v : Nat) : attrB zss O who I G v = true ↔ DoneR (rkK zss O who I G zss.length) (zss.length + 1) v := by
  rw [attrB_iff]
  unfold DoneR
  have := (rkK_bound (zss := zss) (O := O) (who := who) (I := I) (G := G) zss.length v).2
  constructor
  · intro h; exact ⟨h, by omega⟩
  · exact fun h => h.1
theorem attr_done2 {who : Int} {I G : Nat → Bool} (v : Nat) : attrB zss O who I G v = true ↔ DoneR (rkK zss O who I G zss.length) (zss.length + 1 + 1) v := by
  rw [attrB_iff]
  unfold DoneR
  have := (rkK_bound (zss := zss) (O := O) (who := who) (I := I) (G := G) zss.length v).2
  constructor
  · intro h; exact ⟨h, by omega⟩
  · exact fun h => h.1
theorem attr_fix (hin : InG zss) {who : Int} {I G : Nat → Bool} {v : Nat} (hv : v < zss.length) : attrB zss O who I G v = true ↔ QueP zss O who I G (fun x => attrB zss O who I G x = true) v := by
  rw [attr_done2, doneR_succ hin _ hv]
  exact QueP.congr fun x _ => (attr_done x.toNat).symm

/-- A step down, off the goal. -/
theorem attr_step (hin : InG zss) {who : Int} {I G : Nat → Bool} {v : Nat} (hv : v < zss.length) (h : attrB zss O who I G v = true) (hG : G v = false) :
    CanP (ownB O who v) (fun x => I x = true) (fun x => attrB zss O who I G x = true ∧ rkK zss O who I G zss.length x < rkK zss O who I G zss.length v) (row zss v) := by
  obtain ⟨r, hr⟩ : ∃ r : Nat, rkK zss O who I G zss.length v = r := ⟨_, (Int.toNat_of_nonneg (attrB_iff.1 h)).symm⟩
  have h1 : DoneR (rkK zss O who I G zss.length) (r + 1) v := by unfold DoneR; omega
  rw [doneR_succ hin r hv] at h1
  rcases h1.2 with h2 | h2
  · rw [hG] at h2; cases h2
  · refine h2.mono fun x _ hx => ?_
    unfold DoneR at hx
    exact ⟨attrB_iff.2 hx.1, by omega⟩

def lessB (I A : Nat → Bool) : Nat → Bool := fun v => I v && !A v
theorem lessB_iff {I A : Nat → Bool} {v : Nat} : lessB I A v = true ↔ I v = true ∧ A v = false := by unfold lessB; simp

/-- Who is not attracted: the player's successors are not, and the opponent has one that is not. -/
theorem attr_out (hin : InG zss) {who : Int} {I G : Nat → Bool} (ht : TotalP zss I) {v : Nat} (hv : v < zss.length) (hI : I v = true) (h : attrB zss O who I G v = false) :
    (nth O v = who → ∀ x ∈ row zss v, I x.toNat = true → attrB zss O who I G x.toNat = false) ∧ ∃ x ∈ row zss v, I x.toNat = true ∧ attrB zss O who I G x.toNat = false := by
  have hn : ¬ CanP (ownB O who v) (fun x => I x = true) (fun x => attrB zss O who I G x = true) (row zss v) := fun hc => by
    have := (attr_fix (O := O) (who := who) (I := I) (G := G) hin hv).2 ⟨hI, .inr hc⟩
    rw [this] at h; cases h
  unfold CanP at hn
  have key : nth O v = who → ∀ x ∈ row zss v, I x.toNat = true → attrB zss O who I G x.toNat = false := fun ho x hx hIx => by
    rw [if_pos (by unfold ownB; simpa using ho)] at hn
    cases ha : attrB zss O who I G x.toNat with
    | false => rfl
    | true => exact absurd ⟨x, hx, hIx, ha⟩ hn
  refine ⟨key, ?_⟩
  by_cases ho : nth O v = who
  · obtain ⟨x, hx, hIx⟩ := ht v hv hI
    exact ⟨x, hx, hIx, key ho x hx hIx⟩
  · rw [if_neg (by unfold ownB; simpa using ho)] at hn
    apply Classical.byContradiction
    intro hno
    refine hn ⟨ht v hv hI, fun x hx hIx => ?_⟩
    cases ha : attrB zss O who I G x.toNat with
    | true => exact ha
    | false => exact absurd ⟨x, hx, hIx, ha⟩ hno

theorem total_less (hin : InG zss) {who : Int} {I G : Nat → Bool} (ht : TotalP zss I) : TotalP zss (lessB I (attrB zss O who I G)) := fun v hv h => by
  obtain ⟨hI, hA⟩ := lessB_iff.1 h
  obtain ⟨-, x, hx, hIx, hAx⟩ := attr_out hin ht hv hI hA
  exact ⟨x, hx, lessB_iff.2 ⟨hIx, hAx⟩⟩

/-- The steps within a region when who follows a plan. -/
def StepE (zss : List (List Int)) (O : List Int) (who : Int) (W : Nat → Bool) (s : Nat → Nat) (v u : Nat) : Prop := W v = true ∧ v < zss.length ∧ (u : Int) ∈ row zss v ∧ W u = true ∧ (nth O v = who → s v = u)

/-- In the part I, who holds the region W by the plan s, and wins every loop in it. -/
structure HoldsP (zss : List (List Int)) (O : List Int) (p : Nat → Int) (I W : Nat → Bool) (who : Int) (s : Nat → Nat) : Prop where
  sub : ∀ v, W v = true → I v = true
  own : ∀ v, v < zss.length → W v = true → nth O v = who → (s v : Int) ∈ row zss v ∧ W (s v) = true
  opp : ∀ v, v < zss.length → W v = true → nth O v ≠ who → ∀ x ∈ row zss v, I x.toNat = true → W x.toNat = true
  wins : WinE (StepE zss O who W s) p who

theorem HoldsP.congr {p : Nat → Int} {I W W' : Nat → Bool} {who : Int} {s : Nat → Nat} (h : HoldsP zss O p I W who s) (e : ∀ v, W v = W' v) : HoldsP zss O p I W' who s := by
  have : W = W' := funext e
  rw [← this]; exact h
theorem HoldsP.none {p : Nat → Int} {I W : Nat → Bool} {who : Int} (e : ∀ v, W v = false) : HoldsP zss O p I W who (fun _ => 0) where
  sub := fun v h => by rw [e v] at h; cases h
  own := fun v _ h => by rw [e v] at h; cases h
  opp := fun v _ h => by rw [e v] at h; cases h
  wins := fun c L hl => by have := (hl.step 0).1; rw [e] at this; cases this

open Classical in
/-- A step down, else any step within. -/
noncomputable def pullS (zss : List (List Int)) (O : List Int) (who : Int) (I G : Nat → Bool) (v : Nat) : Nat :=
  if h : ∃ u : Nat, (u : Int) ∈ row zss v ∧ attrB zss O who I G u = true ∧ rkK zss O who I G zss.length u < rkK zss O who I G zss.length v then Classical.choose h
  else if h : ∃ u : Nat, (u : Int) ∈ row zss v ∧ I u = true then Classical.choose h else 0

theorem pullS_down (hin : InG zss) {who : Int} {I G : Nat → Bool} {v : Nat} (hv : v < zss.length) (h : attrB zss O who I G v = true) (hG : G v = false) (ho : nth O v = who) :
    (pullS zss O who I G v : Int) ∈ row zss v ∧ attrB zss O who I G (pullS zss O who I G v) = true ∧ rkK zss O who I G zss.length (pullS zss O who I G v) < rkK zss O who I G zss.length v := by
  have hc := attr_step hin hv h hG
  unfold CanP at hc
  rw [if_pos (by unfold ownB; simpa using ho)] at hc
  obtain ⟨x, hx, hIx, hAx, hr⟩ := hc
  obtain ⟨y, rfl, hy⟩ := hin v hv x hx
  rw [Int.toNat_natCast] at hAx hr
  have hex : ∃ u : Nat, (u : Int) ∈ row zss v ∧ attrB zss O who I G u = true ∧ rkK zss O who I G zss.length u < rkK zss O who I G zss.length v := ⟨y, hx, hAx, hr⟩
  have e : pullS zss O who I G v = Classical.choose hex := by unfold pullS; rw [dif_pos hex]
  rw [e]
  exact Classical.choose_spec hex
theorem pullS_in (hin : InG zss) {who : Int} {I G : Nat → Bool} (ht : TotalP zss I) {v : Nat} (hv : v < zss.length) (hI : I v = true) : (pullS zss O who I G v : Int) ∈ row zss v ∧ I (pullS zss O who I G v) = true := by
  by_cases hex : ∃ u : Nat, (u : Int) ∈ row zss v ∧ attrB zss O who I G u = true ∧ rkK zss O who I G zss.length u < rkK zss O who I G zss.length v
  · have e : pullS zss O who I G v = Classical.choose hex := by unfold pullS; rw [dif_pos hex]
    rw [e]
    have h := Classical.choose_spec hex
    exact ⟨h.1, attrB_sub h.2.1⟩
  · have hex2 : ∃ u : Nat, (u : Int) ∈ row zss v ∧ I u = true := by
      obtain ⟨x, hx, hIx⟩ := ht v hv hI
      obtain ⟨y, rfl, hy⟩ := hin v hv x hx
      exact ⟨y, hx, by rw [Int.toNat_natCast] at hIx; exact hIx⟩
    have e : pullS zss O who I G v = Classical.choose hex2 := by unfold pullS; rw [dif_neg hex, dif_pos hex2]
    rw [e]
    exact Classical.choose_spec hex2

/-- Off the goal, every step of a plan that pulls goes down. -/
theorem pull_down (hin : InG zss) {who : Int} {I G W : Nat → Bool} {s : Nat → Nat} (hs : ∀ v, attrB zss O who I G v = true → G v = false → s v = pullS zss O who I G v) (hW : ∀ v, W v = true → I v = true) {v u : Nat} (ha : attrB zss O who I G v = true) (hG : G v = false) (hE : StepE zss O who W s v u) :
    attrB zss O who I G u = true ∧ (rkK zss O who I G zss.length u).toNat < (rkK zss O who I G zss.length v).toNat := by
  obtain ⟨_, hv, hu, hWu, ho⟩ := hE
  have h0 := attrB_iff.1 ha
  by_cases hov : nth O v = who
  · have h := pullS_down hin hv ha hG hov
    rw [← hs v ha hG, ho hov] at h
    have := attrB_iff.1 h.2.1
    exact ⟨h.2.1, by omega⟩
  · have hc := attr_step hin hv ha hG
    unfold CanP at hc
    rw [if_neg (by unfold ownB; simpa using hov)] at hc
    have h := hc.2 u hu (by rw [Int.toNat_natCast]; exact hW u hWu)
    rw [Int.toNat_natCast] at h
    have := attrB_iff.1 h.1
    exact ⟨h.1, by omega⟩

/-- The player of the greatest priority wins all, where the opponent wins nothing off its pull. -/
theorem holds_all (hin : InG zss) {p : Nat → Int} {I G : Nat → Bool} {who top : Int} (ht : TotalP zss I) (hG : ∀ v, G v = true ↔ I v = true ∧ p v = top) (htop : ∀ v, I v = true → p v ≤ top) (hpar : top % 2 = who) {s : Nat → Nat} (h : HoldsP zss O p (lessB I (attrB zss O who I G)) (lessB I (attrB zss O who I G)) who s) :
    ∃ s', HoldsP zss O p I I who s' := by
  refine ⟨fun v => if lessB I (attrB zss O who I G) v = true then s v else pullS zss O who I G v, fun v h => h, fun v hv hI ho => ?_, fun v _ _ _ x _ hx => hx, fun c L hl i hi => ?_⟩
  · by_cases hr : lessB I (attrB zss O who I G) v = true
    · have h1 := h.own v hv hr ho
      simp only [hr, if_true]
      exact ⟨h1.1, (lessB_iff.1 h1.2).1⟩
    · simp only [hr]
      exact pullS_in hin ht hv hI
  · by_cases hex : ∃ j, attrB zss O who I G (c j) = true
    · obtain ⟨j, hj⟩ := hex
      obtain ⟨k, hk⟩ := hl.ground (A := fun v => attrB zss O who I G v = true) (G := fun v => G v = true) (r := fun v => (rkK zss O who I G zss.length v).toNat)
        (fun v u ha hg hE => pull_down (W := I) hin (fun x hx _ => by
          have : ¬ lessB I (attrB zss O who I G) x = true := fun hh => by rw [(lessB_iff.1 hh).2] at hx; cases hx
          simp only [this]; rfl) (fun x hx => hx) ha (by simpa using hg) hE) _ j (Nat.le_refl _) hj
      have h1 := ((hG _).1 hk).2
      have h2 := htop _ (hl.step i).1
      have h3 := hi k
      have : p (c i) = top := by omega
      rw [this]; exact hpar
    · have hr : ∀ j, lessB I (attrB zss O who I G) (c j) = true := fun j => lessB_iff.2 ⟨(hl.step j).1, by
        cases ha : attrB zss O who I G (c j) with
        | false => rfl
        | true => exact absurd ⟨j, ha⟩ hex⟩
      refine h.wins c L ⟨hl.pos, hl.per, fun j => ⟨hr j, (hl.step j).2.1, (hl.step j).2.2.1, hr (j + 1), fun ho => ?_⟩⟩ i hi
      have := (hl.step j).2.2.2.2 ho
      simpa only [hr j, if_true] using this

/-- The opponent wins what it pulls to what it wins off the other's pull, and what it wins off that. -/
theorem holds_more (hin : InG zss) (hO : ∀ v, v < zss.length → nth O v = 0 ∨ nth O v = 1) {p : Nat → Int} {I G lost W : Nat → Bool} {who opp : Int} (hwo : (who = 0 ∧ opp = 1) ∨ (who = 1 ∧ opp = 0)) (ht : TotalP zss I) {s s2 : Nat → Nat}
    (h : HoldsP zss O p (lessB I (attrB zss O who I G)) lost opp s) (h2 : HoldsP zss O p (lessB I (attrB zss O opp I lost)) W opp s2) :
    ∃ s', HoldsP zss O p I (fun v => attrB zss O opp I lost v || W v) opp s' := by
  have hLI : ∀ v, lost v = true → I v = true := fun v hv => (lessB_iff.1 (h.sub v hv)).1
  have hLA : ∀ v, v < zss.length → lost v = true → attrB zss O opp I lost v = true := fun v hv hl => (attr_fix hin hv).2 ⟨hLI v hl, .inl hl⟩
  have hcl : ∀ v, v < zss.length → lost v = true → nth O v ≠ opp → ∀ x ∈ row zss v, I x.toNat = true → lost x.toNat = true := fun v hv hl ho x hx hIx => by
    have hw : nth O v = who := by have := hO v hv; omega
    obtain ⟨h1, h3⟩ := lessB_iff.1 (h.sub v hl)
    exact h.opp v hv hl ho x hx (lessB_iff.2 ⟨hIx, (attr_out hin ht hv h1 h3).1 hw x hx hIx⟩)
  have hWI : ∀ v, W v = true → I v = true ∧ attrB zss O opp I lost v = false := fun v hv => lessB_iff.1 (h2.sub v hv)
  refine ⟨fun v => if lost v = true then s v else if attrB zss O opp I lost v = true then pullS zss O opp I lost v else s2 v, fun v hv => ?_, fun v hv hW ho => ?_, fun v hv hW ho x hx hIx => ?_, fun c L hl i hi => ?_⟩
  · rw [Bool.or_eq_true] at hv
    rcases hv with hv | hv
    · exact attrB_sub hv
    · exact (hWI v hv).1
  · show ((if lost v = true then s v else if attrB zss O opp I lost v = true then pullS zss O opp I lost v else s2 v : Nat) : Int) ∈ row zss v ∧ _
    by_cases hl : lost v = true
    · have h1 := h.own v hv hl ho
      simp only [hl, if_true]
      obtain ⟨y, hy, hyn⟩ := hin v hv _ h1.1
      have hyn' : s v < zss.length := by omega
      exact ⟨h1.1, by rw [hLA _ hyn' h1.2]; rfl⟩
    · have hl' : lost v = false := by simpa using hl
      by_cases ha : attrB zss O opp I lost v = true
      · have h1 := pullS_down hin hv ha hl' ho
        simp only [hl, ha, if_true]
        exact ⟨h1.1, by simp only [Bool.false_eq_true, if_false]; rw [h1.2.1]; rfl⟩
      · have hW' : W v = true := by
          rcases Bool.or_eq_true_iff.1 hW with hh | hh
          · exact absurd hh ha
          · exact hh
        have h1 := h2.own v hv hW' ho
        simp only [hl, ha]
        exact ⟨h1.1, by simp only [Bool.false_eq_true, if_false]; rw [h1.2, Bool.or_true]⟩
  · obtain ⟨y, rfl, hy⟩ := hin v hv x hx
    rw [Int.toNat_natCast] at hIx ⊢
    rw [Bool.or_eq_true]
    by_cases hl : lost v = true
    · exact .inl (hLA y hy (by have := hcl v hv hl ho y hx (by rw [Int.toNat_natCast]; exact hIx); rw [Int.toNat_natCast] at this; exact this))
    · have hl' : lost v = false := by simpa using hl
      by_cases ha : attrB zss O opp I lost v = true
      · have hc := attr_step hin hv ha hl'
        unfold CanP at hc
        rw [if_neg (by unfold ownB; simpa using ho)] at hc
        have := (hc.2 y hx (by rw [Int.toNat_natCast]; exact hIx)).1
        rw [Int.toNat_natCast] at this
        exact .inl this
      · have hW' : W v = true := by
          rcases Bool.or_eq_true_iff.1 hW with hh | hh
          · exact absurd hh ha
          · exact hh
        cases hay : attrB zss O opp I lost y with
        | true => exact .inl rfl
        | false =>
          have := h2.opp v hv hW' ho y hx (by rw [Int.toNat_natCast]; exact lessB_iff.2 ⟨hIx, hay⟩)
          rw [Int.toNat_natCast] at this
          exact .inr this
  · by_cases hex : ∃ j, attrB zss O opp I lost (c j) = true
    · obtain ⟨j, hj⟩ := hex
      have hWall : ∀ x, (attrB zss O opp I lost x || W x) = true → I x = true := fun x hx => by
        rcases Bool.or_eq_true_iff.1 hx with hx | hx
        · exact attrB_sub hx
        · exact (hWI x hx).1
      obtain ⟨k, hk⟩ := hl.ground (A := fun v => attrB zss O opp I lost v = true) (G := fun v => lost v = true) (r := fun v => (rkK zss O opp I lost zss.length v).toNat)
        (fun v u ha hg hE => pull_down (W := fun v => attrB zss O opp I lost v || W v) hin (fun x hx hlx => by simp only [hlx, hx]; rfl) hWall ha (by simpa using hg) hE) _ j (Nat.le_refl _) hj
      have hall : ∀ i, lost (c i) = true := hl.all (S := fun v => lost v = true) hk fun v u hlv hE => by
        obtain ⟨_, hv, hu, hWu, ho⟩ := hE
        by_cases hov : nth O v = opp
        · have h1 := ho hov
          simp only [hlv, if_true] at h1
          rw [← h1]; exact (h.own v hv hlv hov).2
        · have := hcl v hv hlv hov u hu (by rw [Int.toNat_natCast]; exact hWall u hWu)
          rw [Int.toNat_natCast] at this; exact this
      refine h.wins c L ⟨hl.pos, hl.per, fun j => ⟨hall j, (hl.step j).2.1, (hl.step j).2.2.1, hall (j + 1), fun ho => ?_⟩⟩ i hi
      have := (hl.step j).2.2.2.2 ho
      simpa only [hall j, if_true] using this
    · have hno : ∀ j, attrB zss O opp I lost (c j) = false := fun j => by
        cases ha : attrB zss O opp I lost (c j) with
        | false => rfl
        | true => exact absurd ⟨j, ha⟩ hex
      have hr : ∀ j, W (c j) = true := fun j => by
        have h1 := (hl.step j).1
        rcases Bool.or_eq_true_iff.1 h1 with hh | hh
        · rw [hno j] at hh; cases hh
        · exact hh
      have hnl : ∀ j, lost (c j) = false := fun j => by
        cases ha : lost (c j) with
        | false => rfl
        | true => have := hLA _ (hl.step j).2.1 ha; rw [hno j] at this; cases this
      refine h2.wins c L ⟨hl.pos, hl.per, fun j => ⟨hr j, (hl.step j).2.1, (hl.step j).2.2.1, hr (j + 1), fun ho => ?_⟩⟩ i hi
      have := (hl.step j).2.2.2.2 ho
      simpa only [hnl j, hno j, Bool.false_eq_true, if_false] using this

/-- The other one keeps what it wins off the opponent's pull. -/
theorem holds_rest (hin : InG zss) (hO : ∀ v, v < zss.length → nth O v = 0 ∨ nth O v = 1) {p : Nat → Int} {I lost W : Nat → Bool} {who opp : Int} (hwo : (who = 0 ∧ opp = 1) ∨ (who = 1 ∧ opp = 0)) (ht : TotalP zss I) {s : Nat → Nat}
    (h : HoldsP zss O p (lessB I (attrB zss O opp I lost)) W who s) : HoldsP zss O p I W who s where
  sub := fun v hv => (lessB_iff.1 (h.sub v hv)).1
  own := h.own
  opp := fun v hv hW ho x hx hIx => by
    obtain ⟨h1, h2⟩ := lessB_iff.1 (h.sub v hW)
    exact h.opp v hv hW ho x hx (lessB_iff.2 ⟨hIx, (attr_out hin ht hv h1 h2).1 (by have := hO v hv; omega) x hx hIx⟩)
  wins := h.wins

end
end

section
open Go.RowKit

/-- The greatest priority of a part among the first k; -1 of none. -/
def topZ (p : Nat → Int) (I : Nat → Bool) : Nat → Int
  | 0 => -1
  | k + 1 => if I k = true then (if topZ p I k < p k then p k else topZ p I k) else topZ p I k

theorem topZ_ge {p : Nat → Int} {I : Nat → Bool} : ∀ n v, v < n → I v = true → p v ≤ topZ p I n
  | 0, _, h, _ => absurd h (Nat.not_lt_zero _)
  | n + 1, v, h, hI => by
    rw [topZ]
    by_cases e : v = n
    · subst e
      rw [if_pos hI]; split <;> omega
    · have ih := topZ_ge (p := p) n v (by omega) hI
      split
      · split <;> omega
      · exact ih
theorem topZ_low {p : Nat → Int} {I : Nat → Bool} : ∀ n, -1 ≤ topZ p I n
  | 0 => by simp [topZ]
  | n + 1 => by have ih := topZ_low (p := p) (I := I) n; rw [topZ]; split <;> (try split) <;> omega
theorem topZ_at {p : Nat → Int} {I : Nat → Bool} : ∀ n, 0 ≤ topZ p I n → ∃ v, v < n ∧ I v = true ∧ p v = topZ p I n
  | 0, h => by simp [topZ] at h
  | n + 1, h => by
    rw [topZ] at h ⊢
    by_cases hI : I n = true
    · rw [if_pos hI] at h ⊢
      by_cases hl : topZ p I n < p n
      · rw [if_pos hl]; exact ⟨n, by omega, hI, rfl⟩
      · rw [if_neg hl] at h ⊢
        obtain ⟨v, h1, h2, h3⟩ := topZ_at n h
        exact ⟨v, by omega, h2, h3⟩
    · rw [if_neg hI] at h ⊢
      obtain ⟨v, h1, h2, h3⟩ := topZ_at n h
      exact ⟨v, by omega, h2, h3⟩

section
variable (zss : List (List Int)) (O : List Int) (p : Nat → Int)

def goalZ (I : Nat → Bool) : Nat → Bool := fun v => I v && decide (p v = topZ p I zss.length)
/-- Those off the pull of the greatest priority. -/
noncomputable def restZ (I : Nat → Bool) : Nat → Bool := lessB I (attrB zss O (topZ p I zss.length % 2) I (goalZ zss p I))
/-- Those of a part that the opponent of who wins. -/
def lostZ (who : Int) (rest low : Nat → Bool) : Nat → Bool := fun v => rest v && (low v != decide (who = 0))
/-- The vertices of a part that player 0 wins. -/
noncomputable def winZ : Nat → (Nat → Bool) → Nat → Bool
  | 0, _, _ => false
  | m + 1, I, v =>
    if topZ p I zss.length < 0 then false
    else if (List.range zss.length).any (lostZ (topZ p I zss.length % 2) (restZ zss O p I) (winZ m (restZ zss O p I))) = false then I v && decide (topZ p I zss.length % 2 = 0)
    else winZ m (lessB I (attrB zss O (1 - topZ p I zss.length % 2) I (lostZ (topZ p I zss.length % 2) (restZ zss O p I) (winZ m (restZ zss O p I))))) v ||
      (attrB zss O (1 - topZ p I zss.length % 2) I (lostZ (topZ p I zss.length % 2) (restZ zss O p I) (winZ m (restZ zss O p I))) v && decide (topZ p I zss.length % 2 = 1))

end

section
variable {zss : List (List Int)} {O : List Int} {p : Nat → Int}

theorem winZ_sub : ∀ (m : Nat) (I : Nat → Bool) (v : Nat), winZ zss O p m I v = true → I v = true
  | 0, I, v, h => by simp [winZ] at h
  | m + 1, I, v, h => by
    rw [winZ] at h
    split at h
    · cases h
    · split at h
      · rw [Bool.and_eq_true] at h; exact h.1
      · rw [Bool.or_eq_true, Bool.and_eq_true] at h
        rcases h with h | h
        · exact (lessB_iff.1 (winZ_sub m _ v h)).1
        · exact attrB_sub h.1

/-- What who wins of a part. -/
def regZ (who : Int) (I win : Nat → Bool) : Nat → Bool := fun v => I v && (win v == decide (who = 0))

theorem marked_less {n : Nat} {I J : Nat → Bool} (h : ∀ v, v < n → J v = true → I v = true) {v : Nat} (hv : v < n) (hI : I v = true) (hJ : J v = false) : (markedK J n).length < (markedK I n).length := markedK_lt n h v hv hJ hI

/-- Each player holds what the solver says, by a plan. -/
theorem winZ_holds (hin : InG zss) (hO : ∀ v, v < zss.length → nth O v = 0 ∨ nth O v = 1) (hp : ∀ v, v < zss.length → 0 ≤ p v) : ∀ (m : Nat) (I : Nat → Bool), (∀ v, I v = true → v < zss.length) → (markedK I zss.length).length ≤ m → TotalP zss I →
    (∃ s, HoldsP zss O p I (regZ 0 I (winZ zss O p m I)) 0 s) ∧ ∃ s, HoldsP zss O p I (regZ 1 I (winZ zss O p m I)) 1 s
  | 0, I, hI, hm, _ => by
    have he : ∀ v, I v = false := fun v => by
      cases h : I v with
      | false => rfl
      | true =>
        have := marked_less (n := zss.length) (I := I) (J := fun _ => false) (fun _ _ h => by cases h) (hI v h) h rfl
        omega
    exact ⟨⟨_, HoldsP.none fun v => by simp [regZ, he v]⟩, ⟨_, HoldsP.none fun v => by simp [regZ, he v]⟩⟩
  | m + 1, I, hI, hm, ht => by
    by_cases htop : topZ p I zss.length < 0
    · have he : ∀ v, I v = false := fun v => by
        cases h : I v with
        | false => rfl
        | true =>
          have h1 := topZ_ge (p := p) zss.length v (hI v h) h
          have h2 := hp v (hI v h)
          omega
      exact ⟨⟨_, HoldsP.none fun v => by simp [regZ, he v]⟩, ⟨_, HoldsP.none fun v => by simp [regZ, he v]⟩⟩
    · obtain ⟨top, hte⟩ : ∃ top, top = topZ p I zss.length := ⟨_, rfl⟩
      have ht0 : 0 ≤ top := by omega
      obtain ⟨who, hwe⟩ : ∃ who, who = top % 2 := ⟨_, rfl⟩
      have hw : (who = 0 ∧ 1 - who = 1) ∨ (who = 1 ∧ 1 - who = 0) := by omega
      obtain ⟨g, hg1, hg2, hg3⟩ := topZ_at (p := p) (I := I) zss.length (by omega)
      have hgoal : ∀ v, goalZ zss p I v = true ↔ I v = true ∧ p v = top := fun v => by unfold goalZ; rw [Bool.and_eq_true, decide_eq_true_iff, hte]
      have hgA : attrB zss O who I (goalZ zss p I) g = true := (attr_fix hin hg1).2 ⟨hg2, .inl ((hgoal g).2 ⟨hg2, by rw [hg3, hte]⟩)⟩
      have hrestE : restZ zss O p I = lessB I (attrB zss O who I (goalZ zss p I)) := by unfold restZ; rw [hwe, hte]
      have hrI : ∀ v, restZ zss O p I v = true → I v = true := fun v h => by rw [hrestE] at h; exact (lessB_iff.1 h).1
      have hrm : (markedK (restZ zss O p I) zss.length).length < (markedK I zss.length).length :=
        marked_less (fun v _ h => hrI v h) hg1 hg2 (by
          cases h : restZ zss O p I g with
          | false => rfl
          | true => rw [hrestE] at h; rw [(lessB_iff.1 h).2] at hgA; cases hgA)
      have htr : TotalP zss (restZ zss O p I) := by rw [hrestE]; exact total_less hin ht
      have ih := winZ_holds hin hO hp m (restZ zss O p I) (fun v h => hI v (hrI v h)) (by omega) htr
      obtain ⟨low, hlow⟩ : ∃ low, low = winZ zss O p m (restZ zss O p I) := ⟨_, rfl⟩
      obtain ⟨lost, hlost⟩ : ∃ lost, lost = lostZ who (restZ zss O p I) low := ⟨_, rfl⟩
      rw [← hlow] at ih
      have hll : ∀ v, lost v = regZ (1 - who) (restZ zss O p I) low v := fun v => by
        rw [hlost]
        unfold lostZ regZ
        rcases hw with ⟨h0, _⟩ | ⟨h0, _⟩ <;> rw [h0] <;> cases restZ zss O p I v <;> cases low v <;> simp
      have ihl : ∃ s, HoldsP zss O p (restZ zss O p I) lost (1 - who) s := by
        rcases hw with ⟨h0, h1⟩ | ⟨h0, h1⟩
        · obtain ⟨s, hs⟩ := ih.2
          exact ⟨s, by rw [h1]; exact hs.congr fun v => by rw [hll v, h1]⟩
        · obtain ⟨s, hs⟩ := ih.1
          exact ⟨s, by rw [h1]; exact hs.congr fun v => by rw [hll v, h1]⟩
      have hwinE : ∀ v, winZ zss O p (m + 1) I v = if (List.range zss.length).any lost = false then I v && decide (who = 0) else winZ zss O p m (lessB I (attrB zss O (1 - who) I lost)) v || (attrB zss O (1 - who) I lost v && decide (who = 1)) := fun v => by
        rw [winZ, if_neg htop, hlost, hlow, hwe, hte]
      by_cases hany : (List.range zss.length).any lost = false
      · -- the opponent wins nothing
        have hno : ∀ v, lost v = false := fun v => by
          cases h : lost v with
          | false => rfl
          | true =>
            have hv : v < zss.length := hI v (hrI v (by rw [hlost] at h; unfold lostZ at h; rw [Bool.and_eq_true] at h; exact h.1))
            rw [List.any_eq_false] at hany
            exact absurd h (hany v (List.mem_range.2 hv))
        have hrw : ∃ s, HoldsP zss O p (restZ zss O p I) (restZ zss O p I) who s := by
          have hre : ∀ v, regZ who (restZ zss O p I) low v = restZ zss O p I v := fun v => by
            have h := hno v
            rw [hlost] at h
            unfold lostZ at h
            unfold regZ
            cases h1 : restZ zss O p I v <;> cases h2 : low v <;> rw [h1, h2] at h <;> rcases hw with ⟨h0, _⟩ | ⟨h0, _⟩ <;> rw [h0] at h ⊢ <;> simp at h ⊢
          rcases hw with ⟨h0, h1⟩ | ⟨h0, h1⟩
          · obtain ⟨s, hs⟩ := ih.1
            exact ⟨s, by rw [h0]; exact hs.congr fun v => by have := hre v; rw [h0] at this; exact this⟩
          · obtain ⟨s, hs⟩ := ih.2
            exact ⟨s, by rw [h0]; exact hs.congr fun v => by have := hre v; rw [h0] at this; exact this⟩
        obtain ⟨s, hs⟩ := hrw
        rw [hrestE] at hs
        obtain ⟨s', hs'⟩ := holds_all hin ht hgoal (fun v hv => by have := topZ_ge (p := p) zss.length v (hI v hv) hv; omega) hwe.symm hs
        have hwho : ∃ s, HoldsP zss O p I (regZ who I (winZ zss O p (m + 1) I)) who s := ⟨s', hs'.congr fun v => by
          unfold regZ; rw [hwinE v, if_pos hany]; cases I v <;> cases hd : decide (who = 0) <;> simp⟩
        have hopp : ∃ s, HoldsP zss O p I (regZ (1 - who) I (winZ zss O p (m + 1) I)) (1 - who) s := ⟨_, HoldsP.none fun v => by
          unfold regZ; rw [hwinE v, if_pos hany]; rcases hw with ⟨h0, _⟩ | ⟨h0, _⟩ <;> rw [h0] <;> cases I v <;> simp⟩
        rcases hw with ⟨h0, h1⟩ | ⟨h0, h1⟩
        · rw [h0] at hwho; rw [h1] at hopp; exact ⟨hwho, hopp⟩
        · rw [h0] at hwho; rw [h1] at hopp; exact ⟨hopp, hwho⟩
      · -- the opponent wins something
        obtain ⟨s, hs⟩ := ihl
        obtain ⟨x, hx, hlx⟩ : ∃ x, x < zss.length ∧ lost x = true := by
          have h1 : (List.range zss.length).any lost = true := by simpa using hany
          rw [List.any_eq_true] at h1
          obtain ⟨x, hx, h2⟩ := h1
          exact ⟨x, List.mem_range.1 hx, h2⟩
        have hIx : I x = true := hrI x (hs.sub x hlx)
        have hax : attrB zss O (1 - who) I lost x = true := (attr_fix hin hx).2 ⟨hIx, .inl hlx⟩
        have ham : (markedK (lessB I (attrB zss O (1 - who) I lost)) zss.length).length < (markedK I zss.length).length :=
          marked_less (fun v _ h => (lessB_iff.1 h).1) hx hIx (by
            cases h : lessB I (attrB zss O (1 - who) I lost) x with
            | false => rfl
            | true => rw [(lessB_iff.1 h).2] at hax; cases hax)
        have ih2 := winZ_holds hin hO hp m (lessB I (attrB zss O (1 - who) I lost)) (fun v h => hI v (lessB_iff.1 h).1) (by omega) (total_less hin ht)
        obtain ⟨again, hagain⟩ : ∃ again, again = winZ zss O p m (lessB I (attrB zss O (1 - who) I lost)) := ⟨_, rfl⟩
        rw [← hagain] at ih2
        have hsub : ∀ v, again v = true → I v = true ∧ attrB zss O (1 - who) I lost v = false := fun v h => by rw [hagain] at h; exact lessB_iff.1 (winZ_sub _ _ _ h)
        have hsA : ∀ v, attrB zss O (1 - who) I lost v = true → I v = true := fun v h => attrB_sub h
        rw [hrestE] at hs
        have hwin2 : ∀ v, winZ zss O p (m + 1) I v = (again v || (attrB zss O (1 - who) I lost v && decide (who = 1))) := fun v => by rw [hwinE v, if_neg hany, hagain]
        have hopp : ∃ s, HoldsP zss O p I (regZ (1 - who) I (winZ zss O p (m + 1) I)) (1 - who) s := by
          have h2 : ∃ s, HoldsP zss O p (lessB I (attrB zss O (1 - who) I lost)) (regZ (1 - who) (lessB I (attrB zss O (1 - who) I lost)) again) (1 - who) s := by
            rcases hw with ⟨h0, h1⟩ | ⟨h0, h1⟩
            · rw [h1] at ih2 ⊢; exact ih2.2
            · rw [h1] at ih2 ⊢; exact ih2.1
          obtain ⟨s2, hs2⟩ := h2
          obtain ⟨s', hs'⟩ := holds_more hin hO hw ht hs hs2
          refine ⟨s', hs'.congr fun v => ?_⟩
          unfold regZ
          rw [hwin2 v]
          have a1 := hsub v
          have a2 := hsA v
          unfold lessB
          cases hav : attrB zss O (1 - who) I lost v <;> cases hiv : I v <;> cases hgv : again v <;> rw [hav] at a1 a2 <;> rw [hiv] at a1 a2 <;> rw [hgv] at a1 <;> rcases hw with ⟨h0, _⟩ | ⟨h0, _⟩ <;> rw [h0] <;> simp at a1 a2 ⊢
        have hwho : ∃ s, HoldsP zss O p I (regZ who I (winZ zss O p (m + 1) I)) who s := by
          have h2 : ∃ s, HoldsP zss O p (lessB I (attrB zss O (1 - who) I lost)) (regZ who (lessB I (attrB zss O (1 - who) I lost)) again) who s := by
            rcases hw with ⟨h0, h1⟩ | ⟨h0, h1⟩
            · rw [h0] at ih2 ⊢; exact ih2.1
            · rw [h0] at ih2 ⊢; exact ih2.2
          obtain ⟨s2, hs2⟩ := h2
          refine ⟨s2, (holds_rest hin hO hw ht hs2).congr fun v => ?_⟩
          unfold regZ
          rw [hwin2 v]
          have a1 := hsub v
          have a2 := hsA v
          unfold lessB
          cases hav : attrB zss O (1 - who) I lost v <;> cases hiv : I v <;> cases hgv : again v <;> rw [hav] at a1 a2 <;> rw [hiv] at a1 a2 <;> rw [hgv] at a1 <;> rcases hw with ⟨h0, _⟩ | ⟨h0, _⟩ <;> rw [h0] <;> simp at a1 a2 ⊢
        rcases hw with ⟨h0, h1⟩ | ⟨h0, h1⟩
        · rw [h0] at hwho; rw [h1] at hopp; exact ⟨hwho, hopp⟩
        · rw [h0] at hwho; rw [h1] at hopp; exact ⟨hopp, hwho⟩

/-- A plan's play from v comes back to where it was. -/
theorem play_loops {n : Nat} {c : Nat → Nat} (hc : ∀ i, c i < n) : ∃ i j, i < j ∧ c i = c j := by
  apply Classical.byContradiction
  intro hn
  have h1 : ((List.range (n + 1)).map c).Nodup := by
    rw [List.Nodup, List.pairwise_map, List.pairwise_iff_getElem]
    intro i j hi hj hij e
    simp only [List.getElem_range] at e
    exact hn ⟨i, j, hij, e⟩
  have h2 : (List.range (n + 1)).map c ⊆ List.range n := fun x hx => by
    obtain ⟨i, _, rfl⟩ := List.mem_map.1 hx
    exact List.mem_range.2 (hc i)
  have := List.Nodup.length_le_of_subset h1 h2
  simp at this
  omega

theorem max_first (f : Nat → Int) : ∀ L, 0 < L → ∃ i, i < L ∧ ∀ j, j < L → f j ≤ f i
  | 0, h => absurd h (Nat.not_lt_zero _)
  | 1, _ => ⟨0, by omega, fun j hj => by have : j = 0 := by omega
                                         rw [this]; exact Int.le_refl _⟩
  | L + 2, _ => by
    obtain ⟨i, hi, h⟩ := max_first f (L + 1) (by omega)
    by_cases hl : f i < f (L + 1)
    · refine ⟨L + 1, by omega, fun j hj => ?_⟩
      by_cases e : j = L + 1
      · rw [e]; exact Int.le_refl _
      · have := h j (by omega); omega
    · refine ⟨i, by omega, fun j hj => ?_⟩
      by_cases e : j = L + 1
      · rw [e]; omega
      · exact h j (by omega)
theorem LoopP.max {E : Nat → Nat → Prop} {c : Nat → Nat} {L : Nat} (h : LoopP E c L) (f : Nat → Int) : ∃ i, ∀ j, f (c j) ≤ f (c i) := by
  obtain ⟨i, _, hm⟩ := max_first (fun k => f (c k)) L h.pos
  refine ⟨i, fun j => ?_⟩
  have h1 := h.far (j % L) (j / L)
  rw [Nat.mul_comm, Nat.mod_add_div] at h1
  rw [h1]
  exact hm _ (Nat.mod_lt _ h.pos)

/-- Two plans that share the vertices between them cannot both win. -/
theorem no_both (hin : InG zss) {O' : List Int} {p' : Nat → Int} {I I' W W' : Nat → Bool} {who who' : Int} {s s' : Nat → Nat} (h : HoldsP zss O p I W who s) (h' : HoldsP zss O' p' I' W' who' s') (hI : ∀ v, v < zss.length → I v = true) (hI' : ∀ v, v < zss.length → I' v = true)
    (ho : ∀ v, v < zss.length → (nth O v = who ↔ nth O' v ≠ who')) (hq : ∀ u v : Nat, u < zss.length → v < zss.length → p u ≤ p v → p' v ≤ p' u → p v % 2 = who → p' u % 2 = who' → False) : ∀ v, v < zss.length → ¬ (W v = true ∧ W' v = true) := by
  rintro v0 hv0 ⟨hw0, hw0'⟩
  obtain ⟨f, hf⟩ : ∃ f : Nat → Nat, f = fun v => if nth O v = who then s v else s' v := ⟨_, rfl⟩
  have hstep : ∀ v, v < zss.length → W v = true → W' v = true → f v < zss.length ∧ W (f v) = true ∧ W' (f v) = true ∧ StepE zss O who W s v (f v) ∧ StepE zss O' who' W' s' v (f v) := fun v hv hw hw' => by
    by_cases hov : nth O v = who
    · have e : f v = s v := by rw [hf]; exact if_pos hov
      have h1 := h.own v hv hw hov
      obtain ⟨y, hy, hyn⟩ := hin v hv _ h1.1
      have hsn : s v < zss.length := by omega
      have h2 := h'.opp v hv hw' ((ho v hv).1 hov) _ h1.1 (by rw [Int.toNat_natCast]; exact hI' _ hsn)
      rw [Int.toNat_natCast] at h2
      rw [e]
      exact ⟨hsn, h1.2, h2, ⟨hw, hv, h1.1, h1.2, fun _ => rfl⟩, ⟨hw', hv, h1.1, h2, fun hh => absurd hh ((ho v hv).1 hov)⟩⟩
    · have e : f v = s' v := by rw [hf]; exact if_neg hov
      have hov' : nth O' v = who' := Classical.byContradiction fun hh => hov ((ho v hv).2 hh)
      have h1 := h'.own v hv hw' hov'
      obtain ⟨y, hy, hyn⟩ := hin v hv _ h1.1
      have hsn : s' v < zss.length := by omega
      have h2 := h.opp v hv hw hov _ h1.1 (by rw [Int.toNat_natCast]; exact hI _ hsn)
      rw [Int.toNat_natCast] at h2
      rw [e]
      exact ⟨hsn, h2, h1.2, ⟨hw, hv, h1.1, h2, fun hh => absurd hh hov⟩, ⟨hw', hv, h1.1, h1.2, fun _ => rfl⟩⟩
  obtain ⟨c0, hc0⟩ : ∃ c0 : Nat → Nat, c0 = fun i => Nat.rec v0 (fun _ x => f x) i := ⟨_, rfl⟩
  have hz : c0 0 = v0 := by subst hc0; rfl
  have hs : ∀ i, c0 (i + 1) = f (c0 i) := fun i => by subst hc0; rfl
  have hall : ∀ i, c0 i < zss.length ∧ W (c0 i) = true ∧ W' (c0 i) = true := fun i => by
    induction i with
    | zero => rw [hz]; exact ⟨hv0, hw0, hw0'⟩
    | succ i ih =>
      have h1 := hstep _ ih.1 ih.2.1 ih.2.2
      rw [hs i]; exact ⟨h1.1, h1.2.1, h1.2.2.1⟩
  obtain ⟨i, j, hij, he⟩ := play_loops fun i => (hall i).1
  have hper : ∀ k, c0 (j + k) = c0 (i + k) := fun k => by
    induction k with
    | zero => exact he.symm
    | succ k ih => rw [← Nat.add_assoc, ← Nat.add_assoc, hs, hs, ih]
  have hp1 : ∀ k, c0 (i + (k + (j - i))) = c0 (i + k) := fun k => by rw [← hper k]; congr 1; omega
  have hl : LoopP (StepE zss O who W s) (fun k => c0 (i + k)) (j - i) := ⟨by omega, hp1, fun k => by
    have h1 := hall (i + k)
    have h2 := (hstep _ h1.1 h1.2.1 h1.2.2).2.2.2.1
    rw [← hs] at h2; exact h2⟩
  have hl' : LoopP (StepE zss O' who' W' s') (fun k => c0 (i + k)) (j - i) := ⟨by omega, hp1, fun k => by
    have h1 := hall (i + k)
    have h2 := (hstep _ h1.1 h1.2.1 h1.2.2).2.2.2.2
    rw [← hs] at h2; exact h2⟩
  obtain ⟨a, ha⟩ := hl.max p
  obtain ⟨b, hb⟩ := hl'.max p'
  exact hq _ _ (hall (i + b)).1 (hall (i + a)).1 (ha b) (hb a) (h.wins _ _ hl a ha) (h'.wins _ _ hl' b hb)

end
end

section
open Go.RowKit

section
variable {zss : List (List Int)} {O : List Int} {who : Int} {I G : Nat → Bool}

open Classical in
/-- How many successors in the part have not had their turn. -/
noncomputable def cntF (zss : List (List Int)) (I : Nat → Bool) (P : Nat → Prop) (v : Nat) : Int := (((row zss v).filter (fun x => I x.toNat && !decide (P x.toNat))).length : Int)

theorem cntF_bound (P : Nat → Prop) (v : Nat) : 0 ≤ cntF zss I P v ∧ cntF zss I P v ≤ (row zss v).length := by
  have := List.length_filter_le (fun x => I x.toNat && !@decide (P x.toNat) (Classical.propDecidable _)) (row zss v)
  unfold cntF
  constructor <;> omega
theorem cntF_congr {P P' : Nat → Prop} {v : Nat} (hp : ∀ x ∈ row zss v, (P x.toNat ↔ P' x.toNat)) : cntF zss I P v = cntF zss I P' v := by
  unfold cntF
  congr 2
  refine List.filter_congr fun x hx => ?_
  by_cases h : P x.toNat
  · simp [h, (hp x hx).1 h]
  · have h' : ¬ P' x.toNat := fun hh => h ((hp x hx).2 hh)
    simp [h, h']
theorem cntF_hit {P : Nat → Prop} {u v : Nat} (hn : (row zss v).Nodup) (hpos : ∀ x ∈ row zss v, 0 ≤ x) (hu : (u : Int) ∈ row zss v) (hI : I u = true) (hP : ¬ P u) : cntF zss I (AddP P u) v = cntF zss I P v - 1 := by
  have e := filter_one_less (p := fun x => I x.toNat && !@decide (P x.toNat) (Classical.propDecidable _)) (q := fun x => I x.toNat && !@decide (AddP P u x.toNat) (Classical.propDecidable _)) hn hu (by simp [hI, hP]) (by simp [AddP])
    (fun x hx hne => by
      have hx0 := hpos x hx
      have hxu : x.toNat ≠ u := by omega
      by_cases hh : P x.toNat
      · simp [AddP, hh]
      · simp [AddP, hxu, hh])
  unfold cntF
  omega
theorem cntF_none {P : Nat → Prop} {v : Nat} (h : cntF zss I P v = 0) : ∀ x ∈ row zss v, I x.toNat = true → P x.toNat := fun x hx hIx => by
  unfold cntF at h
  rw [Int.natCast_eq_zero, List.length_eq_zero_iff, List.filter_eq_nil_iff] at h
  have := h x hx
  simp [hIx] at this
  exact this
theorem cntF_all {P : Nat → Prop} {v : Nat} (h : ∀ x ∈ row zss v, I x.toNat = true → P x.toNat) : cntF zss I P v = 0 := by
  unfold cntF
  rw [Int.natCast_eq_zero, List.length_eq_zero_iff, List.filter_eq_nil_iff]
  intro x hx hh
  simp at hh
  exact hh.2 (h x hx hh.1)

/-- Between two of the queue: P have had their turn. -/
structure QuP (zss : List (List Int)) (O : List Int) (who : Int) (I G : Nat → Bool) (P : Nat → Prop) (Q : List Int) (out : Nat → Bool) (left : Nat → Int) : Prop where
  verts : VertsP zss.length Q
  outs : ∀ v, v < zss.length → (out v = true ↔ QueP zss O who I G P v)
  mem : ∀ v : Nat, v < zss.length → ((v : Int) ∈ Q ↔ out v = true)
  lefts : ∀ v, v < zss.length → I v = true → out v = false → left v = cntF zss I P v
  sound : ∀ v, v < zss.length → out v = true → attrB zss O who I G v = true

/-- While the predecessors vs of u are read. -/
structure QiP (zss : List (List Int)) (O : List Int) (who : Int) (I G : Nat → Bool) (P : Nat → Prop) (u j : Nat) (vs Q : List Int) (out : Nat → Bool) (left : Nat → Int) : Prop where
  verts : VertsP zss.length Q
  outs : ∀ v : Nat, v < zss.length → (out v = true ↔ QueP zss O who I G P v ∨ ((v : Int) ∈ vs.take j ∧ QueP zss O who I G (AddP P u) v))
  mem : ∀ v : Nat, v < zss.length → ((v : Int) ∈ Q ↔ out v = true)
  lefts : ∀ v : Nat, v < zss.length → I v = true → out v = false → left v = if (v : Int) ∈ vs.take j then cntF zss I (AddP P u) v else cntF zss I P v
  sound : ∀ v, v < zss.length → out v = true → attrB zss O who I G v = true

variable {P : Nat → Prop} {Q vs : List Int} {out : Nat → Bool} {left : Nat → Int} {u j : Nat}

theorem QiP.start (h : QuP zss O who I G P Q out left) : QiP zss O who I G P u 0 vs Q out left :=
  ⟨h.verts, fun v hv => by rw [h.outs v hv]; simp, h.mem, fun v hv hI ho => by rw [h.lefts v hv hI ho]; simp, h.sound⟩

theorem QiP.full (hpos : ∀ v, v < zss.length → ∀ x ∈ row zss v, 0 ≤ x) (hvs : ∀ v : Nat, v < zss.length → (u : Int) ∈ row zss v → (v : Int) ∈ vs) (h : QiP zss O who I G P u vs.length vs Q out left) {P' : Nat → Prop} (hP' : ∀ x, P' x ↔ AddP P u x) : QuP zss O who I G P' Q out left where
  verts := h.verts
  outs := fun v hv => by
    rw [h.outs v hv, List.take_length, QueP.congr (P := P') fun x _ => hP' x.toNat]
    constructor
    · rintro (hh | hh)
      · exact hh.mono fun x _ => .inl
      · exact hh.2
    · intro hh
      by_cases hm : (u : Int) ∈ row zss v
      · exact .inr ⟨hvs v hv hm, hh⟩
      · exact .inl ((QueP.congr (addP_miss (hpos v hv) hm)).2 hh)
  mem := h.mem
  lefts := fun v hv hI ho => by
    rw [h.lefts v hv hI ho, List.take_length, cntF_congr (P := P') fun x _ => hP' x.toNat]
    by_cases hm : (u : Int) ∈ row zss v
    · rw [if_pos (hvs v hv hm)]
    · split
      · rfl
      · exact cntF_congr (addP_miss (hpos v hv) hm)
  sound := h.sound

theorem take_fresh {vs : List Int} {j : Nat} (hn : vs.Nodup) (hj : j < vs.length) : nth vs j ∉ vs.take j := fun hh => by
  rw [← List.take_append_drop j vs, List.nodup_append] at hn
  refine hn.2.2 _ hh _ ?_ rfl
  rw [List.mem_iff_getElem?]
  exact ⟨0, by rw [List.getElem?_drop, Nat.add_zero, List.getElem?_eq_getElem hj, nth_eq hj]⟩

/-- The vertex v is passed over: it is not of the part, or is in the queue already, or cannot step to u. -/
theorem QiP.pass (hpos : ∀ v, v < zss.length → ∀ x ∈ row zss v, 0 ≤ x) (hn : vs.Nodup) (h : QiP zss O who I G P u j vs Q out left) {v : Nat} (hvn : v < zss.length) (hj : j < vs.length) (hv : nth vs j = (v : Int)) (hw : I v = false ∨ out v = true ∨ (u : Int) ∉ row zss v) : QiP zss O who I G P u (j + 1) vs Q out left := by
  have hno := take_fresh hn hj
  rw [hv] at hno
  have hq : QueP zss O who I G (AddP P u) v → out v = true := fun hq => by
    rcases hw with h1 | h1 | h1
    · rw [hq.1] at h1; cases h1
    · exact h1
    · exact (h.outs v hvn).2 (.inl ((QueP.congr (addP_miss (hpos v hvn) h1)).2 hq))
  refine ⟨h.verts, fun x hx => ?_, h.mem, fun x hx hI ho => ?_, h.sound⟩
  · rw [h.outs x hx, take_snoc hj, hv]
    constructor
    · exact fun hh => hh.imp id fun hh => ⟨by simp [hh.1], hh.2⟩
    · rintro (hh | ⟨h1, h2⟩)
      · exact .inl hh
      · rw [List.mem_append] at h1
        rcases h1 with h1 | h1
        · exact .inr ⟨h1, h2⟩
        · obtain rfl := Int.natCast_inj.1 (List.mem_singleton.1 h1)
          exact (h.outs x hx).1 (hq h2)
  · rw [h.lefts x hx hI ho, take_snoc hj, hv]
    by_cases e : x = v
    · subst e
      rw [if_neg hno, if_pos (by simp)]
      rcases hw with h1 | h1 | h1
      · rw [hI] at h1; cases h1
      · rw [ho] at h1; cases h1
      · exact cntF_congr (addP_miss (hpos x hx) h1)
    · have e' : ((x : Int) = v) ↔ False := ⟨fun h => e (Int.natCast_inj.1 h), False.elim⟩
      simp only [List.mem_append, List.mem_singleton, e', or_false]

/-- The vertex v has one successor less to wait for. -/
theorem QiP.less (hz : RowsP zss) (hn : vs.Nodup) (h : QiP zss O who I G P u j vs Q out left) {v : Nat} (hvn : v < zss.length) (hj : j < vs.length) (hv : nth vs j = (v : Int)) (hI : I v = true) (ho : out v = false) (hu : (u : Int) ∈ row zss v) (hIu : I u = true) (hPu : ¬ P u) :
    left v - 1 = cntF zss I (AddP P u) v ∧ (nth O v ≠ who → left v - 1 ≠ 0 → QiP zss O who I G P u (j + 1) vs Q out (fun x => if x = v then left v - 1 else left x)) ∧
    (nth O v = who ∨ left v - 1 = 0 → (∀ x, x < zss.length → P x → attrB zss O who I G x = true) → attrB zss O who I G u = true → QiP zss O who I G P u (j + 1) vs (Q ++ [(v : Int)]) (fun x => if x = v then true else out x) (fun x => if x = v then left v - 1 else left x)) := by
  have hno := take_fresh hn hj
  rw [hv] at hno
  have el : left v = cntF zss I P v := by rw [h.lefts v hvn hI ho, if_neg hno]
  have e1 : left v - 1 = cntF zss I (AddP P u) v := by rw [el, cntF_hit (hz.once v hvn) (hz.pos hvn) hu hIu hPu]
  have hnq : ¬ QueP zss O who I G P v := fun hq => by rw [(h.outs v hvn).2 (.inl hq)] at ho; cases ho
  have hnG : G v = false := by
    cases hg : G v with
    | false => rfl
    | true => exact absurd ⟨hI, .inl hg⟩ hnq
  refine ⟨e1, fun hw h0 => ?_, fun hw hPs hus => ?_⟩
  · have hq : ¬ QueP zss O who I G (AddP P u) v := fun hq => by
      rcases hq.2 with hg | hc
      · rw [hnG] at hg; cases hg
      · unfold CanP at hc
        rw [if_neg (by unfold ownB; simpa using hw)] at hc
        exact h0 (by rw [e1]; exact cntF_all hc.2)
    refine ⟨h.verts, fun x hx => ?_, h.mem, fun x hx hIx hox => ?_, h.sound⟩
    · rw [h.outs x hx, take_snoc hj, hv]
      constructor
      · exact fun hh => hh.imp id fun hh => ⟨by simp [hh.1], hh.2⟩
      · rintro (hh | ⟨h1, h2⟩)
        · exact .inl hh
        · rw [List.mem_append] at h1
          rcases h1 with h1 | h1
          · exact .inr ⟨h1, h2⟩
          · obtain rfl := Int.natCast_inj.1 (List.mem_singleton.1 h1)
            exact absurd h2 hq
    · rw [take_snoc hj, hv]
      by_cases e : x = v
      · subst e
        rw [if_pos rfl, if_pos (by simp), e1]
      · have e' : ((x : Int) = v) ↔ False := ⟨fun h => e (Int.natCast_inj.1 h), False.elim⟩
        rw [if_neg e, h.lefts x hx hIx hox]
        simp only [List.mem_append, List.mem_singleton, e', or_false]
  · have hq : QueP zss O who I G (AddP P u) v := by
      refine ⟨hI, .inr ?_⟩
      unfold CanP
      by_cases how : nth O v = who
      · rw [if_pos (by unfold ownB; simpa using how)]
        exact ⟨u, hu, by rw [Int.toNat_natCast]; exact hIu, .inr (Int.toNat_natCast u)⟩
      · rw [if_neg (by unfold ownB; simpa using how)]
        refine ⟨⟨u, hu, by rw [Int.toNat_natCast]; exact hIu⟩, cntF_none ?_⟩
        rw [← e1]
        rcases hw with hh | hh
        · exact absurd hh how
        · exact hh
    have hna : (v : Int) ∉ Q := fun hm => by rw [(h.mem v hvn).1 hm] at ho; cases ho
    have hsv : attrB zss O who I G v = true := (attr_fix hz.inG hvn).2 (hq.mono fun x hx hh => by
      obtain ⟨y, rfl, hy⟩ := hz.inG v hvn x hx
      rw [Int.toNat_natCast] at hh ⊢
      rcases hh with hh | hh
      · exact hPs y hy hh
      · rw [hh]; exact hus)
    refine ⟨h.verts.snoc hvn hna, fun x hx => ?_, fun x hx => ?_, fun x hx hIx hox => ?_, fun x hx hox => ?_⟩
    · rw [take_snoc hj, hv]
      by_cases e : x = v
      · subst e
        rw [if_pos rfl]
        exact ⟨fun _ => .inr ⟨by simp, hq⟩, fun _ => rfl⟩
      · have e' : ((x : Int) = v) ↔ False := ⟨fun h => e (Int.natCast_inj.1 h), False.elim⟩
        rw [if_neg e, h.outs x hx]
        simp only [List.mem_append, List.mem_singleton, e', or_false]
    · by_cases e : x = v
      · subst e; simp
      · have e' : ((x : Int) = v) ↔ False := ⟨fun h => e (Int.natCast_inj.1 h), False.elim⟩
        rw [if_neg e, ← h.mem x hx]
        simp only [List.mem_append, List.mem_singleton, e', or_false]
    · by_cases e : x = v
      · subst e; rw [if_pos rfl] at hox; cases hox
      · have e' : ((x : Int) = v) ↔ False := ⟨fun h => e (Int.natCast_inj.1 h), False.elim⟩
        rw [if_neg e] at hox ⊢
        rw [h.lefts x hx hIx hox, take_snoc hj, hv]
        simp only [List.mem_append, List.mem_singleton, e', or_false]
    · by_cases e : x = v
      · subst e; exact hsv
      · rw [if_neg e] at hox; exact h.sound x hx hox

/-- When all of the queue have had their turn, it is the attractor. -/
theorem QuP.done (hz : RowsP zss) (h : QuP zss O who I G (fun x => (x : Int) ∈ Q) Q out left) : ∀ v, v < zss.length → out v = attrB zss O who I G v := by
  have hfix : ∀ v, v < zss.length → (out v = true ↔ QueP zss O who I G (fun x => out x = true) v) := fun v hv => by
    rw [h.outs v hv]
    exact QueP.congr fun x hx => by
      obtain ⟨y, rfl, hy⟩ := hz.inG v hv x hx
      rw [Int.toNat_natCast]; exact h.mem y hy
  have hall : ∀ k v, v < zss.length → 0 ≤ rkK zss O who I G k v → out v = true := fun k => by
    induction k with
    | zero =>
      intro v hv hr
      rw [rkK] at hr
      split at hr
      · next hc => exact (hfix v hv).2 ⟨hc.1, .inl hc.2⟩
      · omega
    | succ k ih =>
      intro v hv hr
      refine (hfix v hv).2 (((rkK_que k v).1 hr).mono fun x hx hh => ?_)
      obtain ⟨y, rfl, hy⟩ := hz.inG v hv x hx
      rw [Int.toNat_natCast] at hh ⊢
      exact ih y hy hh
  intro v hv
  rw [Bool.eq_iff_iff]
  exact ⟨h.sound v hv, fun ha => hall _ v hv (attrB_iff.1 ha)⟩

end
end

end Go.Proofs.Ytihaajcmephlmaa
namespace Go.Proofs.Ytihaajcmephlmaa
section
section
open Go.RowKit

/-- What SetOk says. -/
def setOk (n : Int) (zs : List Int) : Bool := inB n 0 256 && setB n zs

theorem setOk_yes {n : Int} {zs : List Int} (h : 0 ≤ n ∧ n ≤ 256) : setOk n zs = setB n zs := by unfold setOk; rw [inB_yes h.1 h.2]; rfl
theorem setOk_no {n : Int} {zs : List Int} (h : n < 0 ∨ 256 < n) : setOk n zs = false := by unfold setOk; rw [inB_no h]; rfl

set_option maxHeartbeats 400000 in
theorem specSetOk_is {w : World} {a : Option Addr} {zs : List Int} {n : Int} {r : Bool} (hr : setOk n zs = r) (cap : Nat) (h : IntsAt w a zs) :
    Calls Try.prog 58 #[.slice a zs.length cap, .int .i64 n] w fun e w' => e = .returned (.bool r) ∧ ∃ q, w' = w.drewN q := by
  by_cases hn : 0 ≤ n ∧ n ≤ 256
  · have HI := Lib.hid (l1In_is (inB_yes hn.1 hn.2))
    rw [setOk_yes hn] at hr
    have HC := Lib.hid (l1Set_is hr cap w h (by omega) (by omega))
    clear hr h
    go_enter Try.func58, Try.ntmps58
    go_wp2_with (first
      | (go_at_call 59; refine (HI.out _).mono ?_; rintro e w' ⟨rfl, rfl⟩)
      | (go_at_call 94; refine HC.out.mono ?_; rintro e w' ⟨rfl, HW⟩))
    go_ret
    exact ⟨rfl, HW⟩
  · have HI := Lib.hid (l1In_is (x := n) (lo := 0) (hi := 256) (inB_no (by omega)))
    have HR : Hid (r = false) := by rw [← hr]; exact setOk_no (by omega)
    clear hr h
    go_enter Try.func58, Try.ntmps58
    go_wp2_with (go_at_call 59; refine (HI.out _).mono ?_; rintro e w' ⟨rfl, rfl⟩)
    go_ret
    exact ⟨ret_bool HR.out.symm, 0, rfl⟩

/-- What HasIn says. -/
def hasIn (zs : List Int) (x : Int) : Bool := setB 256 zs && hasB zs x

theorem setOk_256 {zs : List Int} : setOk 256 zs = setB 256 zs := setOk_yes ⟨by decide, by decide⟩

/-- Both are sets of numbers from 0 to 255. -/
def bothOk (S T : List Int) : Bool := setB 256 S && setB 256 T

set_option maxHeartbeats 400000 in
theorem l2Both_is {w : World} {a a' : Option Addr} {S T : List Int} {r : Bool} (hr : bothOk S T = r) (cs ct : Nat) (h : IntsAt w a S) (h' : IntsAt w a' T) :
    Calls Try.prog 67 #[.slice a S.length cs, .slice a' T.length ct] w fun e w' => e = .returned (.bool r) ∧ ∃ q, w' = w.drewN q := by
  cases hs : setB 256 S with
  | true =>
    have HC := Lib.hid (specSetOk_is (setOk_256.trans hs) cs h)
    have HH : Hid (∀ q, Calls Try.prog 58 #[.slice a' T.length ct, .int .i64 256] (w.drewN q) fun e w' => e = .returned (.bool r) ∧ ∃ q', w' = (w.drewN q).drewN q') := fun q =>
      specSetOk_is (by rw [← hr, setOk_256]; unfold bothOk; rw [hs]; rfl) ct (h'.same ⟨q, rfl⟩)
    clear hr h hs h'
    go_enter Try.func67, Try.ntmps67
    go_wp2_with fail
    refine HC.out.mono ?_
    rintro e w' ⟨rfl, q, rfl⟩
    go_wp2_with fail
    refine (HH.out _).mono ?_
    rintro e w' ⟨rfl, q', rfl⟩
    go_wp2
    go_ret
    exact ⟨rfl, _, rfl⟩
  | false =>
    have HC := Lib.hid (specSetOk_is (setOk_256.trans hs) cs h)
    have HR : Hid (r = false) := by rw [← hr]; unfold bothOk; rw [hs]; rfl
    clear hr h hs h'
    go_enter Try.func67, Try.ntmps67
    go_wp2_with (go_at_call 58; refine HC.out.mono ?_; rintro e w' ⟨rfl, q, rfl⟩)
    go_ret
    exact ⟨ret_bool HR.out.symm, _, rfl⟩
end

section
open Go.RowKit

theorem all_rows {p : List Int → Bool} {zss : List (List Int)} : zss.all p = true ↔ ∀ j, j < zss.length → p (row zss j) = true := by
  rw [List.all_eq_true]
  constructor
  · intro h j hj; rw [row_eq hj]; exact h _ (List.getElem_mem _)
  · intro h z hz
    obtain ⟨j, hj, rfl⟩ := List.mem_iff_getElem.1 hz
    rw [← row_eq hj]; exact h j hj

theorem rows_two {w : World} {a a' : Option Addr} {S T : List Int} {cs ct : Nat} (h : IntsAt w a S) (h' : IntsAt w a' T) :
    RowsAt (w.alloc (.cells #[.slice a S.length cs, .slice a' T.length ct] 27)) (some ⟨w.heap.size, 0, none⟩) (fun k => if k = 0 then a else a') (fun k => if k = 0 then cs else ct) [S, T] := by
  have hb := Box2.new w 27 (.slice a S.length cs) (.slice a' T.length ct)
  refine ⟨by simp, fun _ => ⟨_, 0, rfl, fun k hk => ?_⟩, fun k hk => ?_⟩
  · match k with
    | 0 => exact hb.cell0
    | 1 => exact hb.cell1
    | k + 2 => exact absurd hk (by simp)
  · match k with
    | 0 => exact h.alloc _
    | 1 => exact h'.alloc _
    | k + 2 => exact absurd hk (by simp)

theorem rows_one {w : World} {a : Option Addr} {S : List Int} {cs : Nat} (h : IntsAt w a S) :
    RowsAt (w.alloc (.cells #[.slice a S.length cs] 27)) (some ⟨w.heap.size, 0, none⟩) (fun _ => a) (fun _ => cs) [S] := by
  refine ⟨by simp, fun _ => ⟨_, 0, rfl, fun k hk => ?_⟩, fun k hk => ?_⟩
  · match k with
    | 0 =>
      have h0 := heap_alloc_new w (.cells #[.slice a S.length cs] 27)
      simp only [World.cell?, h0, row]
      rfl
    | k + 1 => exact absurd hk (by simp)
  · match k with
    | 0 => exact h.alloc _
    | k + 1 => exact absurd hk (by simp)

/-- What p picks of the first k elements. -/
def partK (p : Int → Bool) (S : List Int) : Nat → List Int
  | 0 => []
  | k + 1 => partK p S k ++ if p (nth S k) then [nth S k] else []

theorem partK_filter (p : Int → Bool) (S : List Int) : ∀ k, k ≤ S.length → partK p S k = (S.take k).filter p
  | 0, _ => rfl
  | k + 1, h => by
    rw [partK, partK_filter p S k (by omega), List.take_add_one, List.filter_append, nth_eq (by omega)]
    rw [List.getElem?_eq_getElem (by omega)]
    simp [List.filter_cons]
theorem partK_all (p : Int → Bool) (S : List Int) : partK p S S.length = S.filter p := by rw [partK_filter p S _ (Nat.le_refl _), List.take_length]
theorem partK_len (p : Int → Bool) (S : List Int) (k : Nat) : (partK p S k).length ≤ k := by
  induction k with
  | zero => simp [partK]
  | succ k ih => simp only [partK]; split <;> simp <;> omega
theorem filter_fits {S : List Int} (p : Int → Bool) (h : ∀ k, k < S.length → Fits (nth S k)) : ∀ k, k < (S.filter p).length → Fits (nth (S.filter p) k) := fun k hk => by
  have hm := (List.mem_filter.1 (nth_mem hk)).1
  obtain ⟨j, hj, e⟩ := mem_nth.1 hm
  rw [← e]; exact h j hj

/-- Who is in T; who isn't. -/
def inT (T : List Int) : Int → Bool := fun x => hasB T x
def outT (T : List Int) : Int → Bool := fun x => !hasB T x

/-- A row of one's own, that grows. -/
structure Grows (w wr : World) (v : Value) (zs : List Int) : Prop where
  own : wr.ownsRow w.heap.size 2 1 v zs.length (zs.map (Value.int .i64))

/-- What MeetOf, LessOf and PartIn say. -/
def meetL (S T : List Int) : List Int := if bothOk S T then S.filter (inT T) else []
def lessL (S T : List Int) : List Int := if bothOk S T then S.filter (outT T) else []
def partB (S T : List Int) : Bool := bothOk S T && decide ((S.filter (outT T)).length = 0)

theorem both_sets {S T : List Int} (h : bothOk S T = true) : setB 256 S = true ∧ setB 256 T = true := by simpa [bothOk] using h
theorem both_len {S T : List Int} (h : bothOk S T = true) : S.length ≤ 256 := by have := setB_len (by decide) (both_sets h).1; omega

end
end

section
section
open Go.RowKit

/-- How many elements stand ahead of x. -/
def lowK : List Int → Int → Nat
  | [], _ => 0
  | z :: r, x => if z < x then lowK r x + 1 else 0

theorem lowK_at : ∀ (zs : List Int) (x : Int) (k : Nat), k ≤ zs.length → (∀ j, j < k → nth zs j < x) → (k < zs.length → ¬ nth zs k < x) → lowK zs x = k
  | [], _, k, hk, _, _ => by simp at hk; subst hk; rfl
  | z :: r, x, 0, _, _, h => by
    have h0 : ¬ z < x := by simpa [nth] using h (by simp)
    simp [lowK, h0]
  | z :: r, x, k + 1, hk, hl, h => by
    have h0 : z < x := by simpa [nth] using hl 0 (by omega)
    have ih := lowK_at r x k (by simpa using hk) (fun j hj => by simpa [nth] using hl (j + 1) (by omega)) (fun hj => by simpa [nth] using h (by simpa using hj))
    simp [lowK, h0, ih]

/-- What l1Into hands back. -/
def intoL (zs : List Int) (x : Int) : List Int := if lowK zs x < zs.length ∧ nth zs (lowK zs x) = x then zs else zs.take (lowK zs x) ++ x :: zs.drop (lowK zs x)

theorem intoL_same {zs : List Int} {x : Int} {k : Nat} (hk : k < zs.length) (hl : ∀ j, j < k → nth zs j < x) (h : nth zs k = x) : intoL zs x = zs := by
  have e := lowK_at zs x k (by omega) hl (fun _ => by omega)
  unfold intoL; rw [e, if_pos ⟨hk, h⟩]
theorem intoL_new {zs : List Int} {x : Int} {k : Nat} (hk : k ≤ zs.length) (hl : ∀ j, j < k → nth zs j < x) (h : k < zs.length → x < nth zs k) : intoL zs x = zs.take k ++ x :: zs.drop k := by
  have e := lowK_at zs x k hk hl (fun hk => by have := h hk; omega)
  unfold intoL; rw [e, if_neg (fun ⟨h1, h2⟩ => by have := h h1; omega)]
theorem intoL_len (zs : List Int) (x : Int) : (intoL zs x).length ≤ zs.length + 1 := by
  unfold intoL; split
  · omega
  · simp; omega
theorem intoL_mem {zs : List Int} {x y : Int} : y ∈ intoL zs x ↔ y ∈ zs ∨ y = x := by
  unfold intoL; split
  · rename_i h
    constructor
    · exact Or.inl
    · rintro (h1 | rfl)
      · exact h1
      · rw [← h.2]; exact nth_mem h.1
  · have : y ∈ zs ↔ y ∈ zs.take (lowK zs x) ∨ y ∈ zs.drop (lowK zs x) := by
      rw [← List.mem_append, List.take_append_drop]
    rw [List.mem_append, List.mem_cons, this]
    constructor
    · rintro (h | rfl | h)
      · exact .inl (.inl h)
      · exact .inr rfl
      · exact .inl (.inr h)
    · rintro ((h | h) | rfl)
      · exact .inl h
      · exact .inr (.inr h)
      · exact .inr (.inl rfl)
theorem intoL_fits {zs : List Int} {x : Int} (h : ∀ k, k < zs.length → Fits (nth zs k)) (hx : Fits x) : ∀ k, k < (intoL zs x).length → Fits (nth (intoL zs x) k) := fun k hk => by
  rcases intoL_mem.1 (nth_mem hk) with hm | e
  · obtain ⟨j, hj, e⟩ := mem_nth.1 hm
    rw [← e]; exact h j hj
  · rw [e]; exact hx

theorem IntsAt.take {w : World} {a : Option Addr} {zs : List Int} (h : IntsAt w a zs) (k : Nat) (hk : k ≤ zs.length) : IntsAt w a (zs.take k) := by
  have hl : (zs.take k).length = k := by simp; omega
  have hn : ∀ j, j < k → nth (zs.take k) j = nth zs j := fun j hj => by simp [nth, hj]
  refine ⟨by rw [hl]; have := h.len; omega, fun j hj => ?_, fun h0 => ?_⟩
  · rw [hl] at hj; rw [hn j hj]; exact h.fits j (by omega)
  · rw [hl] at h0
    obtain ⟨b, off, ha, hc⟩ := h.cell (by omega)
    exact ⟨b, off, ha, fun j hj => by rw [hl] at hj; rw [hn j hj]; exact hc j (by omega)⟩

theorem news_drop {w : World} {g : Nat} {zs : List Int} (h : IntsAt w (some ⟨g, 0, none⟩) zs) (k : Nat) : ∀ j u, ((zs.drop k).map (Value.int .i64))[j]? = some u → w.cell? ((⟨g, k, none⟩ : Addr).add j) = some u := by
  intro j u hu
  have hj : j < (zs.drop k).length := by
    rcases Nat.lt_or_ge j (zs.drop k).length with h | h
    · exact h
    · simp only [List.getElem?_map, List.getElem?_eq_none h] at hu; cases hu
  have hl : (zs.drop k).length = zs.length - k := List.length_drop
  obtain ⟨b, off, ha, hc⟩ := h.cell (by omega)
  cases ha
  have hcj := hc (k + j) (by omega)
  rw [Nat.zero_add] at hcj
  rw [Go.WideShapes.add_plain, hcj]
  rw [List.getElem?_map, List.getElem?_eq_getElem hj] at hu
  rw [← hu]
  have : (zs.drop k)[j] = nth zs (k + j) := by rw [List.getElem_drop, nth_eq (by omega)]
  rw [this]; rfl

theorem into_own {w : World} {B k : Nat} {v : Value} {zs : List Int} {x : Int} (hk : k ≤ zs.length) (h : w.ownsRow B 2 1 v (k + 1 + (zs.length - k)) (List.take k (zs.map (Value.int .i64)) ++ .int .i64 x :: List.drop k (zs.map (Value.int .i64)))) :
    w.ownsRow B 2 1 v (zs.take k ++ x :: zs.drop k).length ((zs.take k ++ x :: zs.drop k).map (Value.int .i64)) := by
  have e : (zs.take k ++ x :: zs.drop k).length = k + 1 + (zs.length - k) := by simp; omega
  rw [e]
  simpa using h

/-- A slice of the call's own, that gives way to another one. -/
def GivesOwn (w : World) (B : Nat) (zs : List Int) (e : Ending) (w' : World) : Prop :=
  ∃ u, e = .returned u ∧ OwnInts w' B w'.heap.size u zs ∧ Below w.heap.size w w'

set_option maxHeartbeats 2000000 in
set_option maxRecDepth 100000 in
theorem l1Into_is {w : World} {B D : Nat} {v : Value} {zs : List Int} {x : Int} (h : OwnInts w B D v zs) (hB : B ≤ w.heap.size) (hl : zs.length ≤ 1048576) (hx : Fits x) :
    Calls Try.prog 69 #[v, .int .i64 x] w (GivesOwn w B (intoL zs x)) := by
  obtain ⟨i0, hi, hz0, hz1, hz2⟩ := info_parts info_int
  have HI := Lib.hid h
  have HX := Lib.hid hx
  unfold Fits at hx
  rcases h.own.2 with ⟨hv, h0⟩ | ⟨g, cap, cur, hv, hg, hbk, hnc, hm, hcs, ht⟩
  · have hz : zs = [] := List.length_eq_zero_iff.1 h0
    subst hz
    subst hv
    have HC : Hid (Calls Try.prog 68 #[.slice none 0 0] w (GivesInts w [])) := l1Copy_is (zs := []) 0 ⟨by simp, fun k hk => absurd hk (by simp), fun hp => absurd hp (by simp)⟩
    clear h h0
    go_enter Try.func69, Try.ntmps69
    go_wp2
    go_loop [5] (fun i => i = .int .i64 0) (fun _ => 0)
    case atStart => rfl
    case round =>
      subst hrel
      go_wp2_with (first
        | (go_at_call 68; refine HC.out.mono ?_; rintro e w1 ⟨u, rfl, hu, hb⟩; have HU := Lib.hid hu; have HB := Lib.hid hb; have hsz := hb.size; clear hu hb)
        | (at_builtin; refine wpList_append_own_at _ rfl _ _ 27 rfl w.heap.size 2 i0 (.int .i64 0) 1 8 Try.underlying27 hi hz0 hz1 hz2 rfl (by decide) _ _ _ rfl (HU.out.own.alloc _) ⟨w1.heap.size, 0, none⟩ 1 1 [.int .i64 x] rfl rfl ?c1 ?c2 ?c3 ?c4 ?c5 ?_))
      case c1 => exact cell_one_new _ _ _
      case c2 => intro u hu; simp at hu; subst hu; rfl
      case c3 => unfold maxLen; simp
      case c4 => simp
      case c5 => simp; omega
      · intro v' w2 hown' hgrow _ _
        have HOn : Hid (w2.ownsRow w.heap.size 2 1 v' 1 [.int .i64 x]) := Lib.hid (by simpa using hown')
        have HBn := Lib.hid ((HB.out.alloc hsz (.cells #[.int .i64 x] 2)).grown hgrow (by simp; omega) (fun g hg => (HU.out.own.lt g hg).1))
        clear hown' hgrow
        go_wp2_with (at_builtin; refine wpList_append_nil rfl _ _ 27 rfl w.heap.size 2 i0 1 Try.underlying27 hi _ _ _ rfl HOn.out _ rfl ?_)
        go_ret
        have e : intoL [] x = [x] := intoL_new (k := 0) (by simp) (fun j hj => absurd hj (by omega)) (fun h => absurd h (by simp))
        refine ⟨_, rfl, ?_, HBn.out⟩
        rw [e]
        exact (OwnInts.mk' (zs := [x]) HOn.out (by simp) (fun k hk => by have : k = 0 := by simp at hk; omega
                                                                         subst this; exact HX.out)).base hB
  · subst hv
    obtain ⟨a', cap', hva, hia, _⟩ := h.shape
    cases hva
    have HA := Lib.hid hia
    clear hia h
    go_enter Try.func69, Try.ntmps69
    go_wp2
    go_loop [5] (fun i => ∃ k : Nat, k ≤ zs.length ∧ i = .int .i64 k ∧ Hid (∀ j, j < k → nth zs j < x)) (fun i => zs.length - (intOf i).toNat)
    case atStart => exact ⟨0, Nat.zero_le _, rfl, fun j hj => absurd hj (Nat.not_lt_zero _)⟩
    case round =>
      obtain ⟨k, hk, rfl, HK⟩ := hrel
      by_cases hlt : k < zs.length
      · obtain ⟨b, off, ha, hc⟩ := HA.out.cell (by omega)
        cases ha
        have hck := hc k hlt
        rw [Nat.zero_add] at hck
        clear hc
        by_cases hlx : nth zs k < x
        · have HK' : Hid (∀ j, j < k + 1 → nth zs j < x) := fun j hj => by
            by_cases e : j = k
            · subst e; exact hlx
            · exact HK.out j (by omega)
          go_wp2
          go_round
          case rel => exact ⟨k + 1, by omega, by go_num, HK'⟩
          case measure => simp [intOf]; omega
        · by_cases he : nth zs k = x
          · have HE : Hid (intoL zs x = zs) := intoL_same hlt HK.out he
            have hb : (nth zs k == x) = true := by simp [he]
            clear he
            go_wp2
            go_ret
            exact ⟨_, rfl, by rw [HE.out]; exact HI.out.retop, Below.refl _ _⟩
          · have hb : (nth zs k == x) = false := by simp [he]
            have HC : Hid (Calls Try.prog 68 #[.slice (some ⟨g, 0, none⟩) k cap] w (GivesInts w (zs.take k))) := by
              have hc := l1Copy_is cap (HA.out.take k hk)
              rw [List.length_take_of_le hk] at hc
              exact hc
            have HE : Hid (intoL zs x = zs.take k ++ x :: zs.drop k) := intoL_new hk HK.out (fun _ => by omega)
            have hkc : k ≤ cap := by omega
            have hlt1 : (zs.take k).length = k := List.length_take_of_le hk
            clear he
            go_wp2_with (first
              | (go_at_call 68; refine HC.out.mono ?_; rintro e w1 ⟨u, rfl, hu, hb⟩; have HU := Lib.hid hu; have HB := Lib.hid hb; have hsz := hb.size; clear hu hb)
              | (at_builtin; refine wpList_append_own_at _ rfl _ _ 27 rfl w.heap.size 2 i0 (.int .i64 0) 1 8 Try.underlying27 hi hz0 hz1 hz2 rfl (by decide) _ _ _ rfl (HU.out.own.alloc _) ⟨w1.heap.size, 0, none⟩ 1 1 [.int .i64 x] rfl rfl ?c1 ?c2 ?c3 ?c4 ?c5 ?_))
            case c1 => exact cell_one_new _ _ _
            case c2 => intro u hu; simp at hu; subst hu; rfl
            case c3 => unfold maxLen; omega
            case c4 => omega
            case c5 => simp; omega
            · intro v' w2 hown' hgrow _ _
              have HOn := Lib.hid hown'
              have HBn := Lib.hid ((HB.out.alloc hsz (.cells #[.int .i64 x] 2)).grown hgrow (by simp; omega) (fun g hg => (HU.out.own.lt g hg).1))
              clear hown' hgrow
              go_wp2_with (at_builtin; refine wpList_append_own_at _ rfl _ _ 27 rfl w.heap.size 2 i0 (.int .i64 0) 1 8 Try.underlying27 hi hz0 hz1 hz2 rfl (by decide) _ _ _ rfl HOn.out ⟨g, k, none⟩ (zs.length - k) (cap - k) ((zs.drop k).map (Value.int .i64)) rfl ?d0 ?d1 ?d2 ?d3 ?d4 ?d5 ?_)
              case d0 => simp
              case d1 => exact news_drop (HA.out.below HBn.out) k
              case d2 => exact one_of _
              case d3 => unfold maxLen; omega
              case d4 => omega
              case d5 => exact HBn.out.size
              · intro v3 w3 hown3 hgrow3 _ _
                have HO3 := Lib.hid (into_own hk (by simpa [hlt1] using hown3))
                have HB3 := Lib.hid (HBn.out.grown hgrow3 HBn.out.size (fun g hg => (HOn.out.lt g hg).1))
                clear hown3 hgrow3
                go_wp2
                go_ret
                refine ⟨_, rfl, ?_, HB3.out⟩
                rw [HE.out]
                refine (OwnInts.mk' HO3.out (by simp; omega) (by rw [← HE.out]; exact intoL_fits HI.out.fits HX.out)).base hB
      · by_cases hcc : cap = k
        · subst hcc
          have HC : Hid (Calls Try.prog 68 #[.slice (some ⟨g, 0, none⟩) cap cap] w (GivesInts w (zs.take cap))) := by
            have hc := l1Copy_is cap (HA.out.take cap hk)
            rw [List.length_take_of_le hk] at hc
            exact hc
          have HE : Hid (intoL zs x = zs.take cap ++ x :: zs.drop cap) := intoL_new hk HK.out (fun h => absurd h hlt)
          have hkc : cap ≤ cap := by omega
          have hkk : ¬ (cap : Int) < zs.length := by omega
          have hlt1 : (zs.take cap).length = cap := List.length_take_of_le hk
          go_wp2_with (first
            | (go_at_call 68; refine HC.out.mono ?_; rintro e w1 ⟨u, rfl, hu, hb⟩; have HU := Lib.hid hu; have HB := Lib.hid hb; have hsz := hb.size; clear hu hb)
            | (at_builtin; refine wpList_append_own_at _ rfl _ _ 27 rfl w.heap.size 2 i0 (.int .i64 0) 1 8 Try.underlying27 hi hz0 hz1 hz2 rfl (by decide) _ _ _ rfl (HU.out.own.alloc _) ⟨w1.heap.size, 0, none⟩ 1 1 [.int .i64 x] rfl rfl ?c1 ?c2 ?c3 ?c4 ?c5 ?_))
          case c1 => exact cell_one_new _ _ _
          case c2 => intro u hu; simp at hu; subst hu; rfl
          case c3 => unfold maxLen; omega
          case c4 => omega
          case c5 => simp; omega
          · intro v' w2 hown' hgrow _ _
            have HOn := Lib.hid hown'
            have HBn := Lib.hid ((HB.out.alloc hsz (.cells #[.int .i64 x] 2)).grown hgrow (by simp; omega) (fun g hg => (HU.out.own.lt g hg).1))
            clear hown' hgrow
            go_wp2_with (at_builtin; refine wpList_append_own_at _ rfl _ _ 27 rfl w.heap.size 2 i0 (.int .i64 0) 1 8 Try.underlying27 hi hz0 hz1 hz2 rfl (by decide) _ _ _ rfl HOn.out ⟨g, 0, none⟩ _ _ [] rfl ?d0 ?d1 ?d2 ?d3 ?d4 ?d5 ?_)
            case d0 => simp
            case d1 => intro j u hu; simp at hu
            case d2 => intro u hu; simp at hu
            case d3 => unfold maxLen; omega
            case d4 => omega
            case d5 => exact HBn.out.size
            · intro v3 w3 hown3 hgrow3 _ _
              have hd : zs.drop cap = [] := List.drop_eq_nil_of_le (by omega)
              have h0 : zs.length - cap = 0 := by omega
              have HO3 := Lib.hid (into_own hk (by rw [← List.map_drop, hd]; rw [h0]; simpa [hlt1] using hown3))
              have HB3 := Lib.hid (HBn.out.grown hgrow3 HBn.out.size (fun g hg => (HOn.out.lt g hg).1))
              clear hown3 hgrow3 hd h0
              go_wp2
              go_ret
              refine ⟨_, rfl, ?_, HB3.out⟩
              rw [HE.out]
              refine (OwnInts.mk' HO3.out (by simp; omega) (by rw [← HE.out]; exact intoL_fits HI.out.fits HX.out)).base hB
        · have HC : Hid (Calls Try.prog 68 #[.slice (some ⟨g, 0, none⟩) k cap] w (GivesInts w (zs.take k))) := by
            have hc := l1Copy_is cap (HA.out.take k hk)
            rw [List.length_take_of_le hk] at hc
            exact hc
          have HE : Hid (intoL zs x = zs.take k ++ x :: zs.drop k) := intoL_new hk HK.out (fun h => absurd h hlt)
          have hkc : k ≤ cap := by omega
          have hkk : ¬ (k : Int) < zs.length := by omega
          have hlt1 : (zs.take k).length = k := List.length_take_of_le hk
          go_wp2_with (first
            | (go_at_call 68; refine HC.out.mono ?_; rintro e w1 ⟨u, rfl, hu, hb⟩; have HU := Lib.hid hu; have HB := Lib.hid hb; have hsz := hb.size; clear hu hb)
            | (at_builtin; refine wpList_append_own_at _ rfl _ _ 27 rfl w.heap.size 2 i0 (.int .i64 0) 1 8 Try.underlying27 hi hz0 hz1 hz2 rfl (by decide) _ _ _ rfl (HU.out.own.alloc _) ⟨w1.heap.size, 0, none⟩ 1 1 [.int .i64 x] rfl rfl ?c1 ?c2 ?c3 ?c4 ?c5 ?_))
          case c1 => exact cell_one_new _ _ _
          case c2 => intro u hu; simp at hu; subst hu; rfl
          case c3 => unfold maxLen; omega
          case c4 => omega
          case c5 => simp; omega
          · intro v' w2 hown' hgrow _ _
            have HOn := Lib.hid hown'
            have HBn := Lib.hid ((HB.out.alloc hsz (.cells #[.int .i64 x] 2)).grown hgrow (by simp; omega) (fun g hg => (HU.out.own.lt g hg).1))
            clear hown' hgrow
            go_wp2_with (at_builtin; refine wpList_append_own_at _ rfl _ _ 27 rfl w.heap.size 2 i0 (.int .i64 0) 1 8 Try.underlying27 hi hz0 hz1 hz2 rfl (by decide) _ _ _ rfl HOn.out ⟨g, k, none⟩ (zs.length - k) (cap - k) [] rfl ?d0 ?d1 ?d2 ?d3 ?d4 ?d5 ?_)
            case d0 => simp; omega
            case d1 => intro j u hu; simp at hu
            case d2 => intro u hu; simp at hu
            case d3 => unfold maxLen; omega
            case d4 => omega
            case d5 => exact HBn.out.size
            · intro v3 w3 hown3 hgrow3 _ _
              have hd : zs.drop k = [] := List.drop_eq_nil_of_le (by omega)
              have HO3 := Lib.hid (into_own hk (by rw [← List.map_drop, hd]; simpa [hlt1] using hown3))
              have HB3 := Lib.hid (HBn.out.grown hgrow3 HBn.out.size (fun g hg => (HOn.out.lt g hg).1))
              clear hown3 hgrow3 hd
              go_wp2
              go_ret
              refine ⟨_, rfl, ?_, HB3.out⟩
              rw [HE.out]
              refine (OwnInts.mk' HO3.out (by simp; omega) (by rw [← HE.out]; exact intoL_fits HI.out.fits HX.out)).base hB
end

section
open Go.RowKit

/-- The bytes of a slice. -/
structure BytesAt (w : World) (a : Option Addr) (bs : List Int) : Prop where
  len : bs.length ≤ 140737488355328
  byt : ∀ k, k < bs.length → ∃ b off, a = some ⟨b, off, none⟩ ∧ w.cell? ⟨b, off + k, none⟩ = some (.int .u8 (nth bs k)) ∧ 0 ≤ nth bs k ∧ nth bs k ≤ 255

theorem Only.new {S T : Nat → Prop} {a b c : World} (h : Only S a b) (k : Only T b c) (ht : ∀ x, T x → S x ∨ a.heap.size ≤ x) : Only S a c :=
  ⟨k.os.trans h.os, k.tape.trans h.tape, k.output.trans h.output, Nat.le_trans h.size k.size, fun i hi hs => (k.block i (Nat.lt_of_lt_of_le hi h.size) (fun hT => by
    rcases ht i hT with h1 | h1
    · exact hs h1
    · omega)).trans (h.block i hi hs)⟩

/-- A literal row. -/
theorem ints_new (w : World) (t : TypeId) (L : List Int) (hl : L.length ≤ 4096) (hf : ∀ z ∈ L, Fits z) : IntsAt (w.alloc (.cells (L.map (Value.int .i64)).toArray t)) (some ⟨w.heap.size, 0, none⟩) L :=
  ⟨by omega, fun k hk => hf _ (nth_mem hk), fun _ => ⟨_, 0, rfl, fun k hk => by
    have h0 := heap_alloc_new w (.cells (L.map (Value.int .i64)).toArray t)
    simp only [World.cell?, h0, Nat.zero_add]
    simp [hk, nth_eq hk]⟩⟩

theorem IntsAt.only {w w' : World} {S : Nat → Prop} {b : Nat} {zs : List Int} (h : IntsAt w (some ⟨b, 0, none⟩) zs) (hk : Only S w w') (hb : b < w.heap.size) (hs : ¬ S b) : IntsAt w' (some ⟨b, 0, none⟩) zs :=
  ⟨h.len, h.fits, fun h0 => by
    obtain ⟨b', off, ha, hc⟩ := h.cell h0
    cases ha
    exact ⟨b, 0, rfl, fun k hk' => by
      rw [World.cell?_of_block (w := w) (hk.block b hb hs)]
      exact hc k hk'⟩⟩

theorem OwnInts.snoc {w : World} {B D : Nat} {v v' : Value} {zs : List Int} {x : Int} {w' : World} (h : OwnInts w B D v zs) (hx : Fits x) (hl : zs.length ≤ 1048576) (ho : w'.ownsRow B 2 1 v' (zs.length + 1) (zs.map (Value.int .i64) ++ [.int .i64 x])) : OwnInts w' B w'.heap.size v' (zs ++ [x]) := by
  refine OwnInts.mk' (by simpa using ho) (by simp; omega) fun k hk => ?_
  have hm := nth_mem hk
  generalize nth (zs ++ [x]) k = y at hm
  rcases List.mem_append.1 hm with hm | hm
  · obtain ⟨j, hj, e⟩ := mem_nth.1 hm
    rw [← e]; exact h.fits j hj
  · simp at hm; rw [hm]; exact hx

end
end

section
open Go.RowKit

/-- What AllOf says. -/
def allL (n : Int) : List Int := if 0 ≤ n ∧ n ≤ 256 then upL n.toNat else []

theorem allL_yes {n : Nat} (h : n ≤ 256) : allL (n : Int) = upL n := by unfold allL; rw [if_pos ⟨by omega, by omega⟩]; simp
theorem allL_no {n : Int} (h : ¬ (0 ≤ n ∧ n ≤ 256)) : allL n = [] := by unfold allL; rw [if_neg h]
theorem upL_succ (k : Nat) : upL (k + 1) = upL k ++ [(k : Int)] := by simp [upL, List.range_succ]
theorem upL_fits {n : Nat} (h : n ≤ 1048576) : ∀ k, k < (upL n).length → Fits (nth (upL n) k) := fun k hk => by
  rw [upL_len] at hk; rw [upL_nth hk]; unfold Fits; omega

set_option maxHeartbeats 1000000 in
theorem upTo_own (n : Nat) (hn : n ≤ 1048576) (w : World) :
    Calls Try.prog 72 #[.int .i64 n] w (GivesInts w (upL n)) := by
  have hmk := run_make_row' (P := Try.prog) 27 2 (.int .i64 0) 8 Try.underlying27 info_int rfl .i64 .i64 n (by omega) (by omega)
  go_enter Try.func72, Try.ntmps72
  go_wp2
  go_loopw [9] (fun i wr => ∃ k : Nat, k ≤ n ∧ i = .int .i64 k ∧ Hid (wr.rowIs w.heap.size 2 n (upPart k)) ∧ Hid (Below w.heap.size w wr)) (fun i _ => n - (intOf i).toNat)
  case atStart => exact ⟨0, Nat.zero_le _, rfl, (World.rowIs_made _ _ _ _).congr (fun i _ => by simp [upPart]), below1 _ _⟩
  case round =>
    clear hmk
    obtain ⟨k, hk, rfl, HR, HB⟩ := hrel
    by_cases hlt : k < n
    · have hcs := HR.out.cell hlt
      have hcf := HR.out.frozen k
      have hi1 : (k : Int) < n := by omega
      go_wp2
      go_roundw
      case rel => exact ⟨k + 1, by omega, by go_num, up_step HR.out, HB.out.setCell (Nat.le_refl _) _⟩
      case measure => simp [intOf]; omega
    · have HE : Hid (OwnInts wr w.heap.size wr.heap.size (.slice (some ⟨w.heap.size, 0, none⟩) n n) (upL n)) := by
        have hlt' : w.heap.size < wr.heap.size := HR.out.lt
        have h := OwnInts.of_rowIs (w := wr) (B := w.heap.size) (D := wr.heap.size) (b := w.heap.size) (zs := upL n) (by
          rw [upL_len]
          exact HR.out.congr fun i hi => by simp only [upPart]; rw [if_pos (by omega), upL_nth hi]) (Nat.le_refl _) hlt' (by rw [upL_len]; omega) (upL_fits hn)
        rw [upL_len] at h
        exact h
      have hi1 : ¬ (k : Int) < n := by omega
      have hi2 : ¬ k < n := hlt
      go_wp2
      go_ret
      exact ⟨_, rfl, HE.out, HB.out⟩

end

section
open Go.RowKit

set_option maxHeartbeats 1000000 in
theorem likeInts_yes {a c : Option Addr} {zs : List Int} (w : World) (ca cc : Nat) (ha : IntsAt w a zs) (hc : IntsAt w c zs) :
    Calls Try.prog 41 #[.slice a zs.length ca, .slice c zs.length cc] w fun e w' => e = .returned (.bool true) ∧ ∃ q, w' = w.drewN q := by
  have hlen := ha.len
  have HA := Lib.hid ha
  have HC := Lib.hid hc
  clear ha hc
  have hne : ((zs.length : Int) != (zs.length : Int)) = false := by simp
  go_enter Try.func41, Try.ntmps41
  go_wp2
  go_loopw [5] (fun i wr => ∃ k : Nat, k ≤ zs.length ∧ i = .int .i64 k ∧ Hid (∃ q, wr = w.drewN q)) (fun i _ => zs.length - (intOf i).toNat)
  case atStart => exact ⟨0, Nat.zero_le _, rfl, 0, rfl⟩
  case round =>
    obtain ⟨k, hk, rfl, HW⟩ := hrel
    by_cases hlt : k < zs.length
    · obtain ⟨b, off, e1, h1⟩ := (HA.out.same HW.out).cell (by omega)
      obtain ⟨b2, off2, e2, h2⟩ := (HC.out.same HW.out).cell (by omega)
      subst e1
      subst e2
      have hck := h1 k hlt
      have hck2 := h2 k hlt
      clear h1 h2
      have hi1 : (k : Int) < zs.length := by omega
      have hn : (nth zs k != nth zs k) = false := by simp
      go_wp2
      go_quiet (fail)
      go_wp2
      go_roundw
      case rel => exact ⟨k + 1, by omega, by go_num, drewn HW.out⟩
      case measure => simp [intOf]; omega
    · go_wp2
      go_ret
      exact ⟨rfl, HW.out⟩

theorem likeInts_at {w : World} {v v' : Value} {zs : List Int} (h : IntsV w v zs) (h' : IntsV w v' zs) :
    Calls Try.prog 41 #[v, v'] w fun e w' => e = .returned (.bool true) ∧ Below w.heap.size w w' := by
  obtain ⟨a, cap, rfl, hi⟩ := h
  obtain ⟨a', cap', rfl, hi'⟩ := h'
  exact (likeInts_yes w cap cap' hi hi').mono fun e w' ⟨he, hq⟩ => ⟨he, below_same (Below.refl _ _) hq⟩

theorem big_is {w : World} {ab : Option Addr} {n cb : Nat} {r : Bool} (hr : decide (4096 < (n : Int)) = r) :
    Calls Try.prog 9 #[.slice ab n cb] w fun e w' => e = .returned (.bool r) ∧ w = w' := by
  by_cases h : 4096 < (n : Int)
  · have HR : Hid (r = true) := by rw [← hr]; exact decide_eq_true h
    clear hr
    go_enter Try.func9, Try.ntmps9
    go_wp2
    go_ret
    exact ⟨ret_bool HR.out.symm, rfl⟩
  · have HR : Hid (r = false) := by rw [← hr]; exact decide_eq_false h
    clear hr
    go_enter Try.func9, Try.ntmps9
    go_wp2
    go_ret
    exact ⟨ret_bool HR.out.symm, rfl⟩

theorem allL_len (n : Int) : (allL n).length ≤ 256 := by
  unfold allL
  split
  · rw [upL_len]; omega
  · simp

/-- Two slices of one's own. -/
def GivesTwo (w : World) (e : Ending) (w' : World) : Prop :=
  ∃ u v S T, e = .returned (.tuple #[u, v]) ∧ OwnInts w' w.heap.size w'.heap.size u S ∧ OwnInts w' w.heap.size w'.heap.size v T ∧ S.length ≤ 301 ∧ T.length ≤ 301 ∧ Below w.heap.size w w'

section
open Go.RowKit
theorem BytesAt.below {w w' : World} {a : Option Addr} {bs : List Int} (h : BytesAt w a bs) (hb : Below w.heap.size w w') : BytesAt w' a bs :=
  ⟨h.len, fun k hk => by
    obtain ⟨b, off, h1, h2, h3⟩ := h.byt k hk
    exact ⟨b, off, h1, Below.cell_some (B := 0) hb rfl h2, h3⟩⟩
end
end

section
open Go.RowKit

/-- t: the struct that grows, with the owners vo and the rows vn (row k is V k), all from block n on. -/
structure Half4 (n : Nat) (wr : World) (t : Nat) (vo vn : Value) (V : Nat → Value) (O : List Int) (zss : List (List Int)) : Prop where
  base : n ≤ t
  str : Box2 wr t 30 vo vn
  ints : OwnInts wr n wr.heap.size vo O
  rows : OwnRows wr n wr.heap.size vn V zss
  apart : ∀ i, i < zss.length → ∀ g, (V i).ownBlock = some g → vo.ownBlock ≠ some g

theorem Half4.only {n t : Nat} {wr wr' : World} {vo vn : Value} {V : Nat → Value} {O : List Int} {zss : List (List Int)} {S : Nat → Prop} (h : Half4 n wr t vo vn V O zss) (hk : Only S wr wr') (hs : ∀ b, S b → b < n) : Half4 n wr' t vo vn V O zss :=
  ⟨h.base, h.str.only hk (fun e => by have := hs _ e; have := h.base; omega), (h.ints.only hk (fun g hg e => by have := hs _ e; have := (h.ints.own.lt g hg).1; omega)).retop,
    (h.rows.only hk (fun g hg e => by have := hs _ e; have := (h.rows.own.lt g hg).1; omega) (fun k hk' g hg e => by have := hs _ e; have := ((h.rows.rows k hk').own.lt g hg).1; omega)).retop, h.apart⟩
theorem Half4.keep {n t : Nat} {wr wr' : World} {vo vn : Value} {V : Nat → Value} {O : List Int} {zss : List (List Int)} (h : Half4 n wr t vo vn V O zss) (hb : Below wr.heap.size wr wr') : Half4 n wr' t vo vn V O zss :=
  h.only (S := fun _ => False) (Only.of_below hb) (fun _ h => h.elim)

theorem Half4.owner {n t gg cap : Nat} {wr w1 : World} {vo vn : Value} {V : Nat → Value} {O : List Int} {x : Int} {zss : List (List Int)} (h : Half4 n wr t vo vn V O zss) (hl : O.length ≤ 1048576) (hx : Fits x)
    (hown1 : w1.ownsRow n 2 1 (.slice (some ⟨gg, 0, none⟩) (O.length + 1) cap) (O.length + 1) (O.map (Value.int .i64) ++ [.int .i64 x])) (hgrow : wr.grownBy w1 vo.ownBlock) (hat : vo.ownBlock = some gg ∨ wr.heap.size ≤ gg) :
    Half4 n (w1.setCell ⟨t, 0, none⟩ (.slice (some ⟨gg, 0, none⟩) (O.length + 1) cap)) t (.slice (some ⟨gg, 0, none⟩) (O.length + 1) cap) vn V (O ++ [x]) zss ∧
      Only (fun b => n ≤ b) wr (w1.setCell ⟨t, 0, none⟩ (.slice (some ⟨gg, 0, none⟩) (O.length + 1) cap)) := by
  have hown := h.ints.own
  have hT1 := h.str.grown hown (by decide) hgrow
  have hI : OwnInts w1 n w1.heap.size (.slice (some ⟨gg, 0, none⟩) (O.length + 1) cap) (O ++ [x]) := h.ints.snoc hx hl hown1
  have hR := h.rows.only (Only.of_grown hgrow) (fun g h1 h2 => own_types h.rows.own hown g h1 h2) (fun k hk g h1 h2 => h.apart k hk g h1 h2)
  have hS := Box2.set0_only (w := w1) (t := t) (.slice (some ⟨gg, 0, none⟩) (O.length + 1) cap)
  refine ⟨⟨h.base, hT1.set0 _, (hI.only hS (fun g hg e => hT1.not_own hI.own (by decide) (by rw [hg, e]))).retop, (hR.only hS (fun g hg e => hT1.not_own hR.own (by decide) (by rw [hg, e])) (fun k hk g hg e => hT1.not_own (hR.rows k hk).own (by decide) (by rw [hg, e]))).retop, fun i hi g hg hh => ?_⟩, ?_⟩
  · simp [Value.ownBlock] at hh
    subst hh
    rcases hat with h' | h'
    · exact h.apart i hi _ hg h'
    · have := (h.rows.rows i hi).top _ hg
      omega
  · exact ((Only.of_grown hgrow).mono fun b hb => (hown.lt b hb).1).trans (hS.mono fun b hb => by rw [hb]; exact h.base)

theorem Half4.push {n t gg cap : Nat} {wr w3 : World} {vo vn u : Value} {V : Nat → Value} {O zs : List Int} {zss : List (List Int)} {B D : Nat} (h : Half4 n wr t vo vn V O zss) (hl : zss.length ≤ 1048576)
    (hu : OwnInts wr B D u zs) (hB : n ≤ B) (hapu : ∀ i, i < zss.length → ∀ g, u.ownBlock = some g → (V i).ownBlock ≠ some g) (hvu : ∀ g, u.ownBlock = some g → vo.ownBlock ≠ some g)
    (hown3 : w3.ownsRow n 27 1 (.slice (some ⟨gg, 0, none⟩) (zss.length + 1) cap) (zss.length + 1) ((List.range zss.length).map V ++ [u])) (hgrow : wr.grownBy w3 vn.ownBlock) :
    Half4 n (w3.setCell ⟨t, 1, none⟩ (.slice (some ⟨gg, 0, none⟩) (zss.length + 1) cap)) t vo (.slice (some ⟨gg, 0, none⟩) (zss.length + 1) cap) (fun i => if i = zss.length then u else V i) O (zss ++ [zs]) ∧
      Only (fun b => n ≤ b) wr (w3.setCell ⟨t, 1, none⟩ (.slice (some ⟨gg, 0, none⟩) (zss.length + 1) cap)) := by
  have hown := h.rows.own
  have hT3 := h.str.grown hown (by decide) hgrow
  have hvo3 : OwnInts w3 n w3.heap.size vo O := (h.ints.only (Only.of_grown hgrow) (fun g h1 h2 => own_types hown h.ints.own g h2 h1)).retop
  have hrows := h.rows.push (w1 := w3) (hu.base hB) (fun i hi g h1 h3 => hapu i hi g h1 h3) hown3 (Only.of_grown hgrow) (by omega)
  have hS : Only (fun b => b = t) w3 (w3.setCell ⟨t, 1, none⟩ (.slice (some ⟨gg, 0, none⟩) (zss.length + 1) cap)) := Box2.set1_only _
  refine ⟨⟨h.base, hT3.set1 _, (hvo3.only hS (fun g hg e => hT3.not_own hvo3.own (by decide) (by rw [hg, e]))).retop, (hrows.only hS (fun g hg e => hT3.not_own hrows.own (by decide) (by rw [hg, e])) (fun k hk g hg e => hT3.not_own (hrows.rows k hk).own (by decide) (by rw [hg, e]))).retop, fun i hi g hg => ?_⟩, ?_⟩
  · by_cases e : i = zss.length
    · subst e
      simp only [if_true] at hg
      exact hvu g hg
    · simp only [if_neg e] at hg
      exact h.apart i (by simp at hi; omega) g hg
  · exact ((Only.of_grown hgrow).mono fun b hb => (hown.lt b hb).1).trans (hS.mono fun b hb => by rw [hb]; exact h.base)

/-- What a struct and a box of results give: the results. -/
theorem Half4.give {w wr : World} {t r : Nat} {vo vn : Value} {V : Nat → Value} {O : List Int} {zss : List (List Int)} {x y : Value} (h : Half4 w.heap.size wr t vo vn V O zss) (hr : Box2 wr r 30 x y) :
    OwnArena ((wr.setCell ⟨r, 0, none⟩ vo).setCell ⟨r, 1, none⟩ vn) w.heap.size ((wr.setCell ⟨r, 0, none⟩ vo).setCell ⟨r, 1, none⟩ vn).heap.size (.agg #[vo, vn]) O zss := by
  have hS : Only (fun b => b = r) wr ((wr.setCell ⟨r, 0, none⟩ vo).setCell ⟨r, 1, none⟩ vn) := (Box2.set0_only _).trans (Box2.set1_only _)
  exact ⟨_, _, V, rfl, (h.ints.only hS (fun g hg e => hr.not_own h.ints.own (by decide) (by rw [hg, e]))).retop, (h.rows.only hS (fun g hg e => hr.not_own h.rows.own (by decide) (by rw [hg, e])) (fun k hk g hg e => hr.not_own (h.rows.rows k hk).own (by decide) (by rw [hg, e]))).retop, h.apart⟩
end

section
open Go.RowKit

theorem Half4.setOwner {n t g cap v : Nat} {wr : World} {vn : Value} {V : Nat → Value} {O : List Int} {zss : List (List Int)} {x : Int} (h : Half4 n wr t (.slice (some ⟨g, 0, none⟩) O.length cap) vn V O zss) (_hv : v < O.length) (hx : Fits x) :
    Half4 n (wr.setCell ⟨g, v, none⟩ (.int .i64 x)) t (.slice (some ⟨g, 0, none⟩) O.length cap) vn V (O.set v x) zss ∧ Only (fun b => n ≤ b) wr (wr.setCell ⟨g, v, none⟩ (.int .i64 x)) := by
  have ho := h.ints.own
  obtain ⟨hs, hgr⟩ := ho.stored v (.int .i64 x)
  have hgn : n ≤ g := (ho.lt g rfl).1
  have hS : Only (fun b => b = g) wr (wr.setCell ⟨g, v, none⟩ (.int .i64 x)) := Only.setCell (S := fun b => b = g) (Only.refl _ _) (p := ⟨g, v, none⟩) rfl _
  have hl : (O.set v x).length = O.length := by simp
  have hm : (O.map (Value.int .i64)).set v (.int .i64 x) = (O.set v x).map (Value.int .i64) := by rw [List.map_set]
  rw [hm] at hs
  refine ⟨⟨h.base, h.str.only hS (fun e => h.str.not_own ho (by decide) (by rw [e]; rfl)), ?_, (h.rows.only hS (fun g' hg e => own_types h.rows.own ho g' hg (by rw [e]; rfl)) (fun k hk g' hg e => h.apart k hk g' hg (by rw [e]; rfl))).retop, h.apart⟩, hS.mono fun b hb => by omega⟩
  refine OwnInts.mk' (by rw [hl]; exact hs) (by rw [hl]; exact h.ints.len) fun k hk => ?_
  have hm2 := nth_mem hk
  generalize nth (O.set v x) k = y at hm2
  rcases List.mem_or_eq_of_mem_set hm2 with hm2 | rfl
  · obtain ⟨j, hj, e⟩ := mem_nth.1 hm2
    rw [← e]; exact h.ints.fits j hj
  · exact hx

theorem row_set {zss : List (List Int)} {v k : Nat} {zs : List Int} (hv : v < zss.length) : row (zss.set v zs) k = if k = v then zs else row zss k := by
  unfold row
  by_cases e : k = v
  · subst e; simp [hv]
  · rw [if_neg e]; simp [Ne.symm e]

theorem Half4.putRow {n t g cap v : Nat} {wr w7 : World} {vo u : Value} {V : Nat → Value} {O zs : List Int} {zss : List (List Int)} (h : Half4 n wr t vo (.slice (some ⟨g, 0, none⟩) zss.length cap) V O zss) (hv : v < zss.length)
    (hg : Only (fun b => (V v).ownBlock = some b) wr w7) (hu : OwnInts w7 n w7.heap.size u zs) (hw : u.ownBlock = (V v).ownBlock ∨ ∃ X, u.ownBlock = some X ∧ wr.heap.size ≤ X) :
    Half4 n (w7.setCell ⟨g, v, none⟩ u) t vo (.slice (some ⟨g, 0, none⟩) zss.length cap) (fun i => if i = v then u else V i) O (zss.set v zs) ∧ Only (fun b => n ≤ b) wr (w7.setCell ⟨g, v, none⟩ u) := by
  have hVv := h.rows.rows v hv
  have ho := ownsRow_only h.rows.own hg (own_types h.rows.own hVv.own)
  obtain ⟨hs, hgr⟩ := ho.stored v u
  have hgn : n ≤ g := (ho.lt g rfl).1
  have hS : Only (fun b => b = g) w7 (w7.setCell ⟨g, v, none⟩ u) := Only.setCell (S := fun b => b = g) (Only.refl _ _) (p := ⟨g, v, none⟩) rfl _
  have hl : (zss.set v zs).length = zss.length := by simp
  have e : ((List.range zss.length).map V).set v u = (List.range zss.length).map (fun i => if i = v then u else V i) := by
    apply List.ext_getElem?
    intro i
    by_cases hi : i < zss.length
    · by_cases e : i = v
      · subst e; simp [hi]
      · simp [hi, e, Ne.symm e]
    · simp [hi]
  rw [e] at hs
  have hI : OwnInts w7 n w7.heap.size vo O := (h.ints.only hg (fun b hb e => h.apart v hv b e hb)).retop
  have hR : ∀ k, k < zss.length → k ≠ v → OwnInts w7 n w7.heap.size (V k) (row zss k) := fun k hk hne => ((h.rows.rows k hk).only hg (h.rows.apart k v hk hv hne)).retop
  have hown : ∀ {zs' : List Int} {x : Value}, OwnInts w7 n w7.heap.size x zs' → ∀ b, x.ownBlock = some b → ¬ b = g := fun hx b hb e => own_types ho hx.own b (by rw [e]; rfl) hb
  have hstr : Box2 w7 t 30 vo (.slice (some ⟨g, 0, none⟩) zss.length cap) := h.str.only hg (fun e => h.str.not_own hVv.own (by decide) e)
  have hul : ∀ i, i < zss.length → i ≠ v → ∀ b, u.ownBlock = some b → (V i).ownBlock ≠ some b := fun i hi hne b hb hb' => by
    rcases hw with hw | ⟨X, hX, hge⟩
    · rw [hw] at hb; exact h.rows.apart i v hi hv hne b hb' hb
    · rw [hX] at hb; have := (h.rows.rows i hi).top b hb'; simp at hb; omega
  refine ⟨⟨h.base, hstr.only hS (fun e => hstr.not_own ho (by decide) (by rw [e]; rfl)), (hI.only hS (hown hI)).retop, ⟨by rw [hl]; exact hs, fun g' hg => (hs.lt g' hg).2, by rw [hl]; exact h.rows.len, fun k hk => ?_, fun i j hi hj hne b hb hb' => ?_⟩, fun i hi b hb => ?_⟩, ?_⟩
  · rw [hl] at hk
    rw [row_set hv]
    by_cases e : k = v
    · simp only [if_pos e]; exact (hu.only hS (hown hu)).retop
    · simp only [if_neg e]; exact ((hR k hk e).only hS (hown (hR k hk e))).retop
  · rw [hl] at hi hj
    by_cases e1 : i = v
    · rw [if_pos e1] at hb
      rw [if_neg (by omega)] at hb'
      exact hul j hj (by omega) b hb hb'
    · rw [if_neg e1] at hb
      by_cases e2 : j = v
      · rw [if_pos e2] at hb'
        exact hul i hi e1 b hb' hb
      · rw [if_neg e2] at hb'
        exact h.rows.apart i j hi hj hne b hb hb'
  · rw [hl] at hi
    by_cases e1 : i = v
    · simp only [if_pos e1] at hb
      intro hb'
      rcases hw with hw | ⟨X, hX, hge⟩
      · rw [hw] at hb; exact h.apart v hv b hb hb'
      · rw [hX] at hb; have := h.ints.top b hb'; simp at hb; omega
    · simp only [if_neg e1] at hb; exact h.apart i hi b hb
  · exact (hg.mono fun b hb => (hVv.own.lt b hb).1).trans (hS.mono fun b hb => by omega)

theorem Half4.ocell {n t g cap v : Nat} {wr : World} {vn : Value} {V : Nat → Value} {O : List Int} {zss : List (List Int)} (h : Half4 n wr t (.slice (some ⟨g, 0, none⟩) O.length cap) vn V O zss) (hv : v < O.length) : wr.cell? ⟨g, v, none⟩ = some (.int .i64 (nth O v)) ∧ wr.frozen? ⟨g, v, none⟩ = false := by
  have hc := h.ints.own.cellAt v (by omega)
  have hf := h.ints.own.frozenAt v
  refine ⟨?_, hf⟩
  rw [hc]; simp [nth, hv]

theorem Half4.rcell {n t g cap v : Nat} {wr : World} {vo : Value} {V : Nat → Value} {O : List Int} {zss : List (List Int)} (h : Half4 n wr t vo (.slice (some ⟨g, 0, none⟩) zss.length cap) V O zss) (hv : v < zss.length) : wr.cell? ⟨g, v, none⟩ = some (V v) ∧ wr.frozen? ⟨g, v, none⟩ = false := by
  have hc := h.rows.own.cellAt v (by omega)
  have hf := h.rows.own.frozenAt v
  refine ⟨?_, hf⟩
  rw [hc]; simp [hv]

theorem own_new (w : World) (x : Int) (hx : Fits x) : OwnInts (w.alloc (.cells #[.int .i64 x] 2)) w.heap.size (w.heap.size + 1) (.slice (some ⟨w.heap.size, 0, none⟩) 1 1) [x] :=
  ⟨⟨by simp, .inr ⟨w.heap.size, 1, _, rfl, Nat.le_refl _, heap_alloc_new w _, Nat.le_refl _, by unfold maxLen; omega, by simp, by simp⟩⟩, fun g hg => by simp [Value.ownBlock] at hg; omega, by simp, fun k hk => by
    have : k = 0 := by simp at hk; omega
    subst this; exact hx⟩

theorem Half4.rcell_only {n t g cap v : Nat} {wr w7 : World} {vo : Value} {V : Nat → Value} {O : List Int} {zss : List (List Int)} (h : Half4 n wr t vo (.slice (some ⟨g, 0, none⟩) zss.length cap) V O zss) (hv : v < zss.length) (hg : Only (fun b => (V v).ownBlock = some b) wr w7) :
    w7.cell? ⟨g, v, none⟩ = some (V v) ∧ w7.frozen? ⟨g, v, none⟩ = false := by
  have ho := ownsRow_only h.rows.own hg (own_types h.rows.own (h.rows.rows v hv).own)
  have hc := ho.cellAt v (by omega)
  have hf := ho.frozenAt v
  refine ⟨?_, hf⟩
  rw [hc]; simp [hv]

theorem OwnArena.base {w : World} {B B' D : Nat} {v : Value} {O : List Int} {zss : List (List Int)} (h : OwnArena w B D v O zss) (hB : B' ≤ B) : OwnArena w B' D v O zss := by
  obtain ⟨vo, vn, V, hv, h1, h2, h4⟩ := h
  exact ⟨vo, vn, V, hv, h1.base hB, h2.base hB, h4⟩

theorem OwnArena.top34 {w : World} {B D D' : Nat} {v : Value} {O : List Int} {zss : List (List Int)} (h : OwnArena w B D v O zss) (hD : D ≤ D') : OwnArena w B D' v O zss := by
  obtain ⟨vo, vn, V, hv, h1, h2, h4⟩ := h
  refine ⟨vo, vn, V, hv, ⟨h1.own, fun g hg => by have := h1.top g hg; omega, h1.len, h1.fits⟩, ⟨h2.own, fun g hg => by have := h2.top g hg; omega, h2.len, fun k hk => ?_, h2.apart⟩, h4⟩
  have h := h2.rows k hk
  exact ⟨h.own, fun g hg => by have := h.top g hg; omega, h.len, h.fits⟩
end

end Go.Proofs.Ytihaajcmephlmaa
namespace Go.Proofs.Ytihaajcmephlmaa
section
open Go.RowKit

/-- A struct of three slices that reads as a game. -/
def GameAt (w : World) (v : Value) (O : List Int) (zss : List (List Int)) (P : List Int) : Prop :=
  ∃ ao an ap co cn cp A C, v = .agg #[.slice ao O.length co, .slice an zss.length cn, .slice ap P.length cp] ∧ IntsAt w ao O ∧ RowsAt w an A C zss ∧ IntsAt w ap P

theorem GameAt.below {w w' : World} {v : Value} {O : List Int} {zss : List (List Int)} {P : List Int} (h : GameAt w v O zss P) (hb : Below w.heap.size w w') : GameAt w' v O zss P := by
  obtain ⟨ao, an, ap, co, cn, cp, A, C, hv, h1, h2, h3⟩ := h
  exact ⟨ao, an, ap, co, cn, cp, A, C, hv, h1.below hb, h2.below hb, h3.below hb⟩

/-- All priorities are from 0 to 40. -/
def priosB (P : List Int) : Bool := decide (∀ x ∈ P, 0 ≤ x ∧ x ≤ 40)
/-- A valid game. -/
noncomputable def parityB (O : List Int) (zss : List (List Int)) (P : List Int) : Bool := arenaB O zss && (decide (P.length = O.length) && priosB P)

theorem priosB_yes {P : List Int} (h : ∀ k, k < P.length → 0 ≤ nth P k ∧ nth P k ≤ 40) : priosB P = true := decide_eq_true fun x hx => by
  obtain ⟨k, hk, rfl⟩ := mem_nth.1 hx
  exact h k hk
theorem priosB_no {P : List Int} {k : Nat} (hk : k < P.length) (h : ¬ (0 ≤ nth P k ∧ nth P k ≤ 40)) : priosB P = false := decide_eq_false fun hh => h (hh _ (nth_mem hk))
theorem parityB_iff {O : List Int} {zss : List (List Int)} {P : List Int} : parityB O zss P = true ↔ ArenaP O zss ∧ P.length = O.length ∧ ∀ x ∈ P, 0 ≤ x ∧ x ≤ 40 := by
  unfold parityB priosB
  rw [Bool.and_eq_true, Bool.and_eq_true, arenaB_iff, decide_eq_true_eq, decide_eq_true_eq]

theorem tri3_new (w : World) (T : TypeId) (a b c : Value) : (w.alloc (.cells #[a, b, c] T)).rowIs w.heap.size T 3 (tri a b c) := by
  refine ⟨_, heap_alloc_new w _, by simp, fun j hj => ?_⟩
  have hj3 : j = 0 ∨ j = 1 ∨ j = 2 := by omega
  rcases hj3 with rfl | rfl | rfl <;> rfl

/-- A box of a game. -/
def Box3 (w : World) (g : Nat) (t : TypeId) (a b c : Value) : Prop := w.rowIs g t 3 (tri a b c)
theorem Box3.new (w : World) (T : TypeId) (a b c : Value) : Box3 (w.alloc (.cells #[a, b, c] T)) w.heap.size T a b c := tri3_new w T a b c
theorem Box3.below {w w' : World} {g : Nat} {t : TypeId} {a b c : Value} (h : Box3 w g t a b c) (hb : Below w.heap.size w w') : Box3 w' g t a b c := rowIs_below h hb
theorem Box3.c0 {w : World} {g : Nat} {t : TypeId} {a b c : Value} (h : Box3 w g t a b c) : w.cell? ⟨g, 0, none⟩ = some a := World.rowIs.cell (i := 0) h (by omega)
theorem Box3.c1 {w : World} {g : Nat} {t : TypeId} {a b c : Value} (h : Box3 w g t a b c) : w.cell? ⟨g, 1, none⟩ = some b := World.rowIs.cell (i := 1) h (by omega)
theorem Box3.c2 {w : World} {g : Nat} {t : TypeId} {a b c : Value} (h : Box3 w g t a b c) : w.cell? ⟨g, 2, none⟩ = some c := World.rowIs.cell (i := 2) h (by omega)
theorem Box3.lt {w : World} {g : Nat} {t : TypeId} {a b c : Value} (h : Box3 w g t a b c) : g < w.heap.size := World.rowIs.lt h
end

section
open Go.RowKit

theorem OwnRows.base2 {w : World} {B B' D : Nat} {v : Value} {V : Nat → Value} {zss : List (List Int)} (h : OwnRows w B D v V zss) (hB : B' ≤ B) : OwnRows w B' D v V zss := h.base hB

/-- The struct v owns a game. -/
def OwnGame (w : World) (B D : Nat) (v : Value) (O : List Int) (zss : List (List Int)) (P : List Int) : Prop :=
  ∃ vo vn vp V, v = .agg #[vo, vn, vp] ∧ OwnInts w B D vo O ∧ OwnRows w B D vn V zss ∧ OwnInts w B D vp P ∧ (∀ k, k < zss.length → ∀ g, (V k).ownBlock = some g → vo.ownBlock ≠ some g) ∧
    (∀ k, k < zss.length → ∀ g, (V k).ownBlock = some g → vp.ownBlock ≠ some g) ∧ ∀ g, vo.ownBlock = some g → vp.ownBlock ≠ some g

section
variable {w w' : World} {B B' D : Nat} {v : Value} {O P : List Int} {zss : List (List Int)}

theorem OwnGame.at (h : OwnGame w B D v O zss P) : GameAt w v O zss P := by
  obtain ⟨vo, vn, vp, V, rfl, h1, h2, h3, _⟩ := h
  obtain ⟨a, c, rfl, hi, _⟩ := h1.shape
  obtain ⟨a', c', rfl, hr, _⟩ := h2.shape
  obtain ⟨b, d, rfl, hp, _⟩ := h3.shape
  exact ⟨_, _, _, _, _, _, _, _, rfl, hi, hr, hp⟩
theorem OwnGame.only {S : Nat → Prop} (h : OwnGame w B D v O zss P) (hk : Only S w w') (hs : ∀ g, B ≤ g → g < D → ¬ S g) : OwnGame w' B D v O zss P := by
  obtain ⟨vo, vn, vp, V, hv, h1, h2, h3, h4⟩ := h
  refine ⟨vo, vn, vp, V, hv, h1.only hk (fun g hg => hs g (h1.own.lt g hg).1 (h1.top g hg)), h2.only hk (fun g hg => hs g (h2.own.lt g hg).1 (h2.top g hg)) (fun k hk' g hg => hs g ((h2.rows k hk').own.lt g hg).1 ((h2.rows k hk').top g hg)), h3.only hk (fun g hg => hs g (h3.own.lt g hg).1 (h3.top g hg)), h4⟩
theorem OwnGame.below (h : OwnGame w B D v O zss P) (hb : Below w.heap.size w w') : OwnGame w' B D v O zss P := by
  obtain ⟨vo, vn, vp, V, hv, h1, h2, h3, h4⟩ := h
  exact ⟨vo, vn, vp, V, hv, h1.below hb, h2.below hb, h3.below hb, h4⟩
theorem OwnGame.base (h : OwnGame w B D v O zss P) (hB : B' ≤ B) : OwnGame w B' D v O zss P := by
  obtain ⟨vo, vn, vp, V, hv, h1, h2, h3, h4⟩ := h
  exact ⟨vo, vn, vp, V, hv, h1.base hB, h2.base hB, h3.base hB, h4⟩
theorem OwnGame.retop (h : OwnGame w B D v O zss P) : OwnGame w B w.heap.size v O zss P := by
  obtain ⟨vo, vn, vp, V, hv, h1, h2, h3, h4⟩ := h
  exact ⟨vo, vn, vp, V, hv, h1.retop, h2.retop, h3.retop, h4⟩
theorem OwnGame.zero (w : World) (B D : Nat) : OwnGame w B D (.agg #[.slice none 0 0, .slice none 0 0, .slice none 0 0]) [] [] [] :=
  ⟨_, _, _, _, rfl, OwnInts.nil _ _ _, OwnRows.nil _ _ _, OwnInts.nil _ _ _, fun k hk => absurd hk (by simp), fun k hk => absurd hk (by simp), fun g hg => by simp [Value.ownBlock] at hg⟩
theorem OwnGame.shape (h : OwnGame w B D v O zss P) : ∃ a0 c0 a1 c1 a2 c2, v = .agg #[.slice a0 O.length c0, .slice a1 zss.length c1, .slice a2 P.length c2] := by
  obtain ⟨ao, an, ap, co, cn, cp, A, C, hv, _⟩ := h.at
  exact ⟨_, _, _, _, _, _, hv⟩
/-- The arena of a game of one's own. -/
theorem OwnGame.arena {vo vn vp : Value} (h : OwnGame w B D (.agg #[vo, vn, vp]) O zss P) : OwnArena w B D (.agg #[vo, vn]) O zss ∧ OwnInts w B D vp P := by
  obtain ⟨vo', vn', vp', V, hv, h1, h2, h3, h4, _⟩ := h
  cases hv
  exact ⟨⟨_, _, V, rfl, h1, h2, h4⟩, h3⟩
/-- An arena and a slice of numbers, of one's own, one made behind the other. -/
theorem OwnGame.of_parts {vo vn vp : Value} {M : Nat} (h : OwnArena w B M (.agg #[vo, vn]) O zss) (hp : OwnInts w M D vp P) (hBM : B ≤ M) (hMD : M ≤ D) : OwnGame w B D (.agg #[vo, vn, vp]) O zss P := by
  obtain ⟨vo', vn', V, hv, h1, h2, h4⟩ := h
  cases hv
  refine ⟨_, _, _, V, rfl, ⟨h1.own, fun g hg => by have := h1.top g hg; omega, h1.len, h1.fits⟩, ⟨h2.own, fun g hg => by have := h2.top g hg; omega, h2.len, fun k hk => ?_, h2.apart⟩, hp.base hBM, h4, fun k hk g hg hh => ?_, fun g hg hh => ?_⟩
  · have h := h2.rows k hk
    exact ⟨h.own, fun g hg => by have := h.top g hg; omega, h.len, h.fits⟩
  · have := (h2.rows k hk).top g hg
    have := (hp.own.lt g hh).1
    omega
  · have := h1.top g hg
    have := (hp.own.lt g hh).1
    omega
end

/-- A call hands back a game of its own. -/
def GivesGame (w : World) (O : List Int) (zss : List (List Int)) (P : List Int) (e : Ending) (w' : World) : Prop :=
  ∃ v, e = .returned v ∧ OwnGame w' w.heap.size w'.heap.size v O zss P ∧ Below w.heap.size w w'
/-- A call hands back a game of its own and a bool. -/
def GivesGameB (w : World) (O : List Int) (zss : List (List Int)) (P : List Int) (r : Bool) (e : Ending) (w' : World) : Prop :=
  ∃ v, e = .returned (.tuple #[v, .bool r]) ∧ OwnGame w' w.heap.size w'.heap.size v O zss P ∧ Below w.heap.size w w'

theorem zero_stored3 {w wr : World} {r : Nat} (hb : Below w.heap.size w wr) (hr : w.heap.size ≤ r) : Below w.heap.size w (((wr.setCell ⟨r, 0, none⟩ (.slice none 0 0)).setCell ⟨r, 1, none⟩ (.slice none 0 0)).setCell ⟨r, 2, none⟩ (.slice none 0 0)) :=
  ((hb.setCell (p := ⟨r, 0, none⟩) hr _).setCell (p := ⟨r, 1, none⟩) hr _).setCell (p := ⟨r, 2, none⟩) hr _
end

section
open Go.RowKit

theorem game_row {w : World} {b n B size m : Nat} {t e : TypeId} {f : Nat → Value} {v : Value} {xs : List Value} (h : w.rowIs b t n f) (ho : w.ownsRow B e size v m xs) (hte : e ≠ t) : v.ownBlock ≠ some b := by
  intro hb
  obtain ⟨c, hc, _⟩ := h
  rcases ho.2 with ⟨rfl, _⟩ | ⟨g, _, _, rfl, _, h1, _⟩
  · simp [Value.ownBlock] at hb
  · simp [Value.ownBlock] at hb
    subst hb
    rw [hc] at h1
    simp at h1
    exact hte h1.2.symm
theorem game_grown {w w1 : World} {b n B size m : Nat} {t e : TypeId} {f : Nat → Value} {v : Value} {xs : List Value} (h : w.rowIs b t n f) (ho : w.ownsRow B e size v m xs) (hte : e ≠ t) (hg : w.grownBy w1 v.ownBlock) : w1.rowIs b t n f :=
  rowIs_only h (Only.of_grown hg) (fun hb => game_row h ho hte hb)
theorem tri_set0 {a b c d : Value} : ∀ i, i < 3 → (if i = 0 then d else tri a b c i) = tri d b c i := fun i hi => by
  by_cases h : i = 0 <;> simp [tri, h]
theorem tri_new (w : World) (T : TypeId) (a b c : Value) : (w.alloc (.cells #[a, b, c] T)).rowIs w.heap.size T 3 (tri a b c) := by
  refine ⟨_, heap_alloc_new w _, by simp, fun j hj => ?_⟩
  have hj3 : j = 0 ∨ j = 1 ∨ j = 2 := by omega
  rcases hj3 with rfl | rfl | rfl <;> rfl

/-- t: the game that grows, with the owners vo, the rows vn (row k is V k) and the priorities vp, all from block n on. -/
structure Half5 (n : Nat) (wr : World) (t : Nat) (vo vn vp : Value) (V : Nat → Value) (O : List Int) (zss : List (List Int)) (P : List Int) : Prop where
  base : n ≤ t
  str : wr.rowIs t 32 3 (tri vo vn vp)
  ints : OwnInts wr n wr.heap.size vo O
  rows : OwnRows wr n wr.heap.size vn V zss
  prio : OwnInts wr n wr.heap.size vp P
  apart : ∀ i, i < zss.length → ∀ g, (V i).ownBlock = some g → vo.ownBlock ≠ some g
  app : ∀ i, i < zss.length → ∀ g, (V i).ownBlock = some g → vp.ownBlock ≠ some g
  apo : ∀ g, vo.ownBlock = some g → vp.ownBlock ≠ some g

section
variable {n t : Nat} {wr wr' w1 : World} {vo vn vp : Value} {V : Nat → Value} {O P : List Int} {zss : List (List Int)}

theorem Half5.only {S : Nat → Prop} (h : Half5 n wr t vo vn vp V O zss P) (hk : Only S wr wr') (hs : ∀ b, S b → b < n) : Half5 n wr' t vo vn vp V O zss P :=
  ⟨h.base, rowIs_only h.str hk (fun e => by have := hs _ e; have := h.base; omega), (h.ints.only hk (fun g hg e => by have := hs _ e; have := (h.ints.own.lt g hg).1; omega)).retop,
    (h.rows.only hk (fun g hg e => by have := hs _ e; have := (h.rows.own.lt g hg).1; omega) (fun k hk' g hg e => by have := hs _ e; have := ((h.rows.rows k hk').own.lt g hg).1; omega)).retop,
    (h.prio.only hk (fun g hg e => by have := hs _ e; have := (h.prio.own.lt g hg).1; omega)).retop, h.apart, h.app, h.apo⟩
theorem Half5.keep (h : Half5 n wr t vo vn vp V O zss P) (hb : Below wr.heap.size wr wr') : Half5 n wr' t vo vn vp V O zss P :=
  h.only (S := fun _ => False) (Only.of_below hb) (fun _ h => h.elim)

/-- A cell of the game's box is written: the rest stays. -/
theorem Half5.ints_set (hT : wr.rowIs t 32 3 (tri vo vn vp)) {u : Value} {zs : List Int} (h : OwnInts wr n wr.heap.size u zs) (i : Nat) (x : Value) : OwnInts (wr.setCell ⟨t, i, none⟩ x) n (wr.setCell ⟨t, i, none⟩ x).heap.size u zs :=
  (h.only ((Only.refl (fun b => b = t) wr).setCell (p := ⟨t, i, none⟩) rfl x) (fun g hg e => game_row hT h.own (by decide) (by rw [hg, e]))).retop
theorem Half5.rows_set (hT : wr.rowIs t 32 3 (tri vo vn vp)) {u : Value} (h : OwnRows wr n wr.heap.size u V zss) (i : Nat) (x : Value) : OwnRows (wr.setCell ⟨t, i, none⟩ x) n (wr.setCell ⟨t, i, none⟩ x).heap.size u V zss :=
  (h.only ((Only.refl (fun b => b = t) wr).setCell (p := ⟨t, i, none⟩) rfl x) (fun g hg e => game_row hT h.own (by decide) (by rw [hg, e])) (fun k hk g hg e => game_row hT (h.rows k hk).own (by decide) (by rw [hg, e]))).retop

theorem Half5.owner {gg cap : Nat} {x : Int} (h : Half5 n wr t vo vn vp V O zss P) (hl : O.length ≤ 1048576) (hx : Fits x)
    (hown1 : w1.ownsRow n 2 1 (.slice (some ⟨gg, 0, none⟩) (O.length + 1) cap) (O.length + 1) (O.map (Value.int .i64) ++ [.int .i64 x])) (hgrow : wr.grownBy w1 vo.ownBlock) (hat : vo.ownBlock = some gg ∨ wr.heap.size ≤ gg) :
    Half5 n (w1.setCell ⟨t, 0, none⟩ (.slice (some ⟨gg, 0, none⟩) (O.length + 1) cap)) t (.slice (some ⟨gg, 0, none⟩) (O.length + 1) cap) vn vp V (O ++ [x]) zss P ∧
      Only (fun b => n ≤ b) wr (w1.setCell ⟨t, 0, none⟩ (.slice (some ⟨gg, 0, none⟩) (O.length + 1) cap)) := by
  have hown := h.ints.own
  have hT1 := game_grown h.str hown (by decide) hgrow
  have hI : OwnInts w1 n w1.heap.size (.slice (some ⟨gg, 0, none⟩) (O.length + 1) cap) (O ++ [x]) := h.ints.snoc hx hl hown1
  have hR := (h.rows.only (Only.of_grown hgrow) (fun g h1 h2 => own_types h.rows.own hown g h1 h2) (fun k hk g h1 h2 => h.apart k hk g h1 h2)).retop
  have hP := (h.prio.only (Only.of_grown hgrow) (fun g h1 h2 => h.apo g h2 h1)).retop
  have hS : Only (fun b => b = t) w1 (w1.setCell ⟨t, 0, none⟩ (.slice (some ⟨gg, 0, none⟩) (O.length + 1) cap)) := Box2.set0_only _
  refine ⟨⟨h.base, (hT1.set 0 _).congr tri_set0, Half5.ints_set hT1 hI 0 _, Half5.rows_set hT1 hR 0 _, Half5.ints_set hT1 hP 0 _, fun i hi g hg hh => ?_, h.app, fun g hg hh => ?_⟩, ?_⟩
  · simp [Value.ownBlock] at hh
    subst hh
    rcases hat with h' | h'
    · exact h.apart i hi _ hg h'
    · have := (h.rows.rows i hi).top _ hg
      omega
  · simp [Value.ownBlock] at hg
    subst hg
    rcases hat with h' | h'
    · exact h.apo _ h' hh
    · have := h.prio.top _ hh
      omega
  · exact ((Only.of_grown hgrow).mono fun b hb => (hown.lt b hb).1).trans (hS.mono fun b hb => by rw [hb]; exact h.base)

theorem Half5.push {gg cap : Nat} {u : Value} {zs : List Int} {B D : Nat} (h : Half5 n wr t vo vn vp V O zss P) (hl : zss.length ≤ 1048576)
    (hu : OwnInts wr B D u zs) (hB : n ≤ B) (hapu : ∀ i, i < zss.length → ∀ g, u.ownBlock = some g → (V i).ownBlock ≠ some g) (hvu : ∀ g, u.ownBlock = some g → vo.ownBlock ≠ some g) (hpu : ∀ g, u.ownBlock = some g → vp.ownBlock ≠ some g)
    (hown3 : w1.ownsRow n 27 1 (.slice (some ⟨gg, 0, none⟩) (zss.length + 1) cap) (zss.length + 1) ((List.range zss.length).map V ++ [u])) (hgrow : wr.grownBy w1 vn.ownBlock) :
    Half5 n (w1.setCell ⟨t, 1, none⟩ (.slice (some ⟨gg, 0, none⟩) (zss.length + 1) cap)) t vo (.slice (some ⟨gg, 0, none⟩) (zss.length + 1) cap) vp (fun i => if i = zss.length then u else V i) O (zss ++ [zs]) P ∧
      Only (fun b => n ≤ b) wr (w1.setCell ⟨t, 1, none⟩ (.slice (some ⟨gg, 0, none⟩) (zss.length + 1) cap)) := by
  have hown := h.rows.own
  have hT3 := game_grown h.str hown (by decide) hgrow
  have hvo3 : OwnInts w1 n w1.heap.size vo O := (h.ints.only (Only.of_grown hgrow) (fun g h1 h2 => own_types hown h.ints.own g h2 h1)).retop
  have hvp3 : OwnInts w1 n w1.heap.size vp P := (h.prio.only (Only.of_grown hgrow) (fun g h1 h2 => own_types hown h.prio.own g h2 h1)).retop
  have hrows := (h.rows.push (w1 := w1) (hu.base hB) (fun i hi g h1 h3 => hapu i hi g h1 h3) hown3 (Only.of_grown hgrow) (by omega)).retop
  have hS : Only (fun b => b = t) w1 (w1.setCell ⟨t, 1, none⟩ (.slice (some ⟨gg, 0, none⟩) (zss.length + 1) cap)) := Box2.set1_only _
  refine ⟨⟨h.base, (hT3.set 1 _).congr tri_set1, Half5.ints_set hT3 hvo3 1 _, Half5.rows_set hT3 hrows 1 _, Half5.ints_set hT3 hvp3 1 _, fun i hi g hg => ?_, fun i hi g hg => ?_, h.apo⟩, ?_⟩
  · by_cases e : i = zss.length
    · subst e
      simp only [if_true] at hg
      exact hvu g hg
    · simp only [if_neg e] at hg
      exact h.apart i (by simp at hi; omega) g hg
  · by_cases e : i = zss.length
    · subst e
      simp only [if_true] at hg
      exact hpu g hg
    · simp only [if_neg e] at hg
      exact h.app i (by simp at hi; omega) g hg
  · exact ((Only.of_grown hgrow).mono fun b hb => (hown.lt b hb).1).trans (hS.mono fun b hb => by rw [hb]; exact h.base)

theorem Half5.prior {gg cap : Nat} {x : Int} (h : Half5 n wr t vo vn vp V O zss P) (hl : P.length ≤ 1048576) (hx : Fits x)
    (hown1 : w1.ownsRow n 2 1 (.slice (some ⟨gg, 0, none⟩) (P.length + 1) cap) (P.length + 1) (P.map (Value.int .i64) ++ [.int .i64 x])) (hgrow : wr.grownBy w1 vp.ownBlock) (hat : vp.ownBlock = some gg ∨ wr.heap.size ≤ gg) :
    Half5 n (w1.setCell ⟨t, 2, none⟩ (.slice (some ⟨gg, 0, none⟩) (P.length + 1) cap)) t vo vn (.slice (some ⟨gg, 0, none⟩) (P.length + 1) cap) V O zss (P ++ [x]) ∧
      Only (fun b => n ≤ b) wr (w1.setCell ⟨t, 2, none⟩ (.slice (some ⟨gg, 0, none⟩) (P.length + 1) cap)) := by
  have hown := h.prio.own
  have hT1 := game_grown h.str hown (by decide) hgrow
  have hI : OwnInts w1 n w1.heap.size (.slice (some ⟨gg, 0, none⟩) (P.length + 1) cap) (P ++ [x]) := h.prio.snoc hx hl hown1
  have hR := (h.rows.only (Only.of_grown hgrow) (fun g h1 h2 => own_types h.rows.own hown g h1 h2) (fun k hk g h1 h2 => h.app k hk g h1 h2)).retop
  have hO := (h.ints.only (Only.of_grown hgrow) (fun g h1 h2 => h.apo g h1 h2)).retop
  have hS : Only (fun b => b = t) w1 (w1.setCell ⟨t, 2, none⟩ (.slice (some ⟨gg, 0, none⟩) (P.length + 1) cap)) := (Only.refl (fun b => b = t) w1).setCell (p := ⟨t, 2, none⟩) rfl _
  refine ⟨⟨h.base, (hT1.set 2 _).congr tri_set2, Half5.ints_set hT1 hO 2 _, Half5.rows_set hT1 hR 2 _, Half5.ints_set hT1 hI 2 _, h.apart, fun i hi g hg hh => ?_, fun g hg hh => ?_⟩, ?_⟩
  · simp [Value.ownBlock] at hh
    subst hh
    rcases hat with h' | h'
    · exact h.app i hi _ hg h'
    · have := (h.rows.rows i hi).top _ hg
      omega
  · simp [Value.ownBlock] at hh
    subst hh
    rcases hat with h' | h'
    · exact h.apo _ hg h'
    · have := h.ints.top _ hg
      omega
  · exact ((Only.of_grown hgrow).mono fun b hb => (hown.lt b hb).1).trans (hS.mono fun b hb => by rw [hb]; exact h.base)
end

/-- The game that has grown. -/
theorem Half5.game {n t : Nat} {wr : World} {vo vn vp : Value} {V : Nat → Value} {O P : List Int} {zss : List (List Int)} (h : Half5 n wr t vo vn vp V O zss P) : OwnGame wr n wr.heap.size (.agg #[vo, vn, vp]) O zss P :=
  ⟨_, _, _, V, rfl, h.ints, h.rows, h.prio, h.apart, h.app, h.apo⟩
end

end Go.Proofs.Ytihaajcmephlmaa
namespace Go.Proofs.Ytihaajcmephlmaa
open Go.RowKit

/-- The vertices that reach v and that v reaches. -/
def partF (f : Nat → Nat → Bool) (S : List Int) (v : Nat) : List Int := S.filter fun x => f v x.toNat && f x.toNat v

/-- The model's parts, and what is done, behind k elements. -/
def loopsK (f : Nat → Nat → Bool) (S : List Int) : Nat → List (List Int) × (Nat → Bool)
  | 0 => ([], fun _ => false)
  | k + 1 => if (loopsK f S k).2 (nth S k).toNat || !f (nth S k).toNat (nth S k).toNat then loopsK f S k
    else ((loopsK f S k).1 ++ [partF f S (nth S k).toNat], fun u => (loopsK f S k).2 u || hasB (partF f S (nth S k).toNat) u)

/-- From v to u by at least one step, in S. -/
noncomputable def farF (zss : List (List Int)) (S : List Int) (v u : Nat) : Bool := beyM zss (openS S S.length) [(v : Int)] u

/-- What l1Loops gives. -/
noncomputable def loopsS (zss : List (List Int)) (S : List Int) : List (List Int) := (loopsK (farF zss S) S S.length).1

theorem rowIs_not_own {w : World} {b n B size m : Nat} {t e : TypeId} {f : Nat → Value} {v : Value} {xs : List Value} (h : w.rowIs b t n f) (ho : w.ownsRow B e size v m xs) (hte : e ≠ t) : v.ownBlock ≠ some b := by
  intro hb
  obtain ⟨c, hc, _⟩ := h
  rcases ho.2 with ⟨rfl, _⟩ | ⟨g, _, _, rfl, _, h1, _⟩
  · simp [Value.ownBlock] at hb
  · simp [Value.ownBlock] at hb
    subst hb
    rw [hc] at h1
    simp at h1
    exact hte h1.2.symm

theorem loopsK_len (f : Nat → Nat → Bool) (S : List Int) : ∀ k, (loopsK f S k).1.length ≤ k
  | 0 => by simp [loopsK]
  | k + 1 => by
    have ih := loopsK_len f S k
    rw [loopsK]
    split
    · omega
    · simp; omega

/-- Rows of slices of one's own, whatever they hold. -/
def GivesLoops (w : World) (zss : List (List Int)) (e : Ending) (w' : World) : Prop :=
  ∃ v V, e = .returned v ∧ OwnRows w' w.heap.size w'.heap.size v V zss ∧ Below w.heap.size w w'

/-- Row j of far, where it is wanted. -/
def FarAt (wr : World) (n N k : Nat) (I : Nat → Bool) (f : Nat → Nat → Bool) (V : Nat → Value) : Prop :=
  ∀ j, j < k → I j = true → ∃ b, V j = .slice (some ⟨b, 0, none⟩) N N ∧ n ≤ b ∧ wr.rowIs b 4 N (marksV (f j))

theorem FarAt.only {wr w' : World} {n N k : Nat} {I : Nat → Bool} {f : Nat → Nat → Bool} {V : Nat → Value} {S : Nat → Prop} (h : FarAt wr n N k I f V) (hk : Only S wr w') (hs : ∀ b c, wr.rowIs b 4 N c → ¬ S b) : FarAt w' n N k I f V := fun j hj hI => by
  obtain ⟨b, h1, h2, h3⟩ := h j hj hI
  exact ⟨b, h1, h2, rowIs_only h3 hk (hs b _ h3)⟩

theorem range_snoc (V : Nat → Value) (k : Nat) (x : Value) : (List.range k).map V ++ [x] = (List.range (k + 1)).map (fun j => if j = k then x else V j) := by
  rw [List.range_succ, List.map_append]
  congr 1
  · exact List.map_congr_left fun j hj => by rw [if_neg (by have := List.mem_range.1 hj; omega)]
  · simp

theorem info_parts' {t : TypeId} {z : Value} {s b : Nat} (h : (Try.prog.info? t).map (fun i => (i.zero, i.size, i.bytes)) = some (some z, s, b)) : ∃ i, Try.prog.info? t = some i ∧ i.zero = some z ∧ i.size = s ∧ i.bytes = b := by
  obtain ⟨i, hi, hz⟩ := Option.map_eq_some_iff.1 h
  simp only [Prod.mk.injEq] at hz
  exact ⟨i, hi, hz.1, hz.2.1, hz.2.2⟩

end Go.Proofs.Ytihaajcmephlmaa
namespace Go.Proofs.Ytihaajcmephlmaa
open Go.RowKit

theorem rows_ext {xs ys : List (List Int)} (hl : xs.length = ys.length) (h : ∀ i, i < xs.length → row xs i = row ys i) : xs = ys := by
  apply List.ext_getElem hl
  intro i h1 h2
  have := h i h1
  rwa [row_eq h1, row_eq h2] at this

open Classical in
/-- The value of SameArena. -/
noncomputable def sameB (O : List Int) (zss : List (List Int)) (O' : List Int) (zss' : List (List Int)) : Bool := decide (ArenaP O zss ∧ ArenaP O' zss' ∧ O = O' ∧ zss = zss')

theorem sameB_no {O : List Int} {zss : List (List Int)} {O' : List Int} {zss' : List (List Int)} (h : ¬ (ArenaP O zss ∧ ArenaP O' zss' ∧ O = O' ∧ zss = zss')) : sameB O zss O' zss' = false := by simp [sameB]; simpa using h
theorem sameB_yes {O : List Int} {zss : List (List Int)} {O' : List Int} {zss' : List (List Int)} (h : ArenaP O zss ∧ ArenaP O' zss' ∧ O = O' ∧ zss = zss') : sameB O zss O' zss' = true := by simp only [sameB, decide_eq_true_eq]; exact h

end Go.Proofs.Ytihaajcmephlmaa
namespace Go.Proofs.Ytihaajcmephlmaa
open Go.RowKit

end Go.Proofs.Ytihaajcmephlmaa
