/-
  Ranks towards a goal. No program text.
-/
import Derived.Test.YthelpfilgamdfaaMath
import Derived.Test.YthelpfilgamdfaaReach
namespace Go.Proofs.Ythelpfilgamdfaa
open Go.RowKit

/-- The rank that a vertex gets by those that there are (as the model reckons it: the least and the greatest so far). -/
def rkF (own : Bool) (I : Nat → Bool) (rk : Nat → Int) : Int → Int → List Int → Int
  | l, m, [] => if l < 0 then -1 else if own = true then l + 1 else m + 1
  | l, m, u :: us => if I u.toNat = false then rkF own I rk l m us
      else if rk u.toNat < 0 ∧ own = false then -1
      else if 0 ≤ rk u.toNat then rkF own I rk (if l < 0 ∨ rk u.toNat < l then rk u.toNat else l) (if m < rk u.toNat then rk u.toNat else m) us
      else rkF own I rk l m us

/-- Can the player force a step into A? -/
def CanP (own : Bool) (I A : Nat → Prop) (us : List Int) : Prop :=
  if own = true then ∃ u ∈ us, I u.toNat ∧ A u.toNat else (∃ u ∈ us, I u.toNat) ∧ ∀ u ∈ us, I u.toNat → A u.toNat

def ownB (O : List Int) (who : Int) (v : Nat) : Bool := decide (nth O v = who)

open Classical in
/-- The ranks up to k; -1 where there is none. -/
noncomputable def rkK (zss : List (List Int)) (O : List Int) (who : Int) (I G : Nat → Bool) : Nat → Nat → Int
  | 0, u => if I u = true ∧ G u = true then 0 else -1
  | k + 1, u => if 0 ≤ rkK zss O who I G k u then rkK zss O who I G k u
      else if I u = true ∧ CanP (ownB O who u) (fun x => I x = true) (fun x => 0 ≤ rkK zss O who I G k x) (row zss u) then (k : Int) + 1 else -1

variable {zss : List (List Int)} {O : List Int} {who : Int} {I G : Nat → Bool}

theorem rkK_bound : ∀ k u, -1 ≤ rkK zss O who I G k u ∧ rkK zss O who I G k u ≤ k
  | 0, u => by unfold rkK; split <;> simp
  | k + 1, u => by
    have h := rkK_bound k u
    unfold rkK
    split
    · constructor <;> omega
    · split <;> constructor <;> omega

theorem rkK_old {k u : Nat} (h : 0 ≤ rkK zss O who I G k u) : rkK zss O who I G (k + 1) u = rkK zss O who I G k u := by
  rw [rkK, if_pos h]
theorem rkK_new {k u : Nat} (h : rkK zss O who I G k u < 0) (h1 : 0 ≤ rkK zss O who I G (k + 1) u) : rkK zss O who I G (k + 1) u = k + 1 := by
  rw [rkK, if_neg (by omega)] at h1 ⊢
  split at h1
  · next hc => rw [if_pos hc]
  · omega
theorem rkK_mem : ∀ {k u : Nat}, 0 ≤ rkK zss O who I G k u → I u = true
  | 0, u, h => by
    rw [rkK] at h
    split at h
    · next hc => exact hc.1
    · omega
  | k + 1, u, h => by
    by_cases h0 : 0 ≤ rkK zss O who I G k u
    · exact rkK_mem h0
    · rw [rkK, if_neg h0] at h
      split at h
      · next hc => exact hc.1
      · omega
theorem rkK_small {k u : Nat} (h : 0 ≤ rkK zss O who I G (k + 1) u) (hk : rkK zss O who I G (k + 1) u ≤ k) : 0 ≤ rkK zss O who I G k u := by
  by_cases h0 : 0 ≤ rkK zss O who I G k u
  · exact h0
  · have := rkK_new (by omega) h; omega

theorem rkF_own {rk : Nat → Int} {k : Int} (hk : 0 ≤ k) : ∀ (us : List Int) (l m : Int), (∀ u ∈ us, I u.toNat = true → rk u.toNat < 0 ∨ rk u.toNat = k) → (l < 0 ∨ l = k) →
    (rkF true I rk l m us = k + 1 ↔ l = k ∨ ∃ u ∈ us, I u.toNat = true ∧ 0 ≤ rk u.toNat)
  | [], l, m, _, hl => by
    unfold rkF
    rcases hl with hl | hl
    · rw [if_pos hl]; simp; omega
    · rw [if_neg (by omega), if_pos rfl]; simp [hl]
  | u :: us, l, m, h, hl => by
    have hu := h u (by simp)
    have ht : ∀ x ∈ us, I x.toNat = true → rk x.toNat < 0 ∨ rk x.toNat = k := fun x hx => h x (by simp [hx])
    rw [rkF]
    by_cases hI : I u.toNat = false
    · rw [if_pos hI, rkF_own hk us l m ht hl]
      simp [hI]
    · have hI' : I u.toNat = true := by simpa using hI
      rw [if_neg hI, if_neg (by simp)]
      by_cases hr : 0 ≤ rk u.toNat
      · have hrk : rk u.toNat = k := by rcases hu hI' with h | h <;> omega
        rw [if_pos hr, rkF_own hk us _ _ ht (by split <;> omega)]
        constructor
        · intro _; exact .inr ⟨u, by simp, hI', hr⟩
        · intro _; left; split <;> omega
      · rw [if_neg hr, rkF_own hk us l m ht hl]
        simp [hI', hr]

theorem rkF_opp {rk : Nat → Int} {k : Int} (hk : 0 ≤ k) : ∀ (us : List Int) (l m : Int), (∀ u ∈ us, rk u.toNat ≤ k) → m ≤ k → (0 ≤ m ↔ 0 ≤ l) →
    (rkF false I rk l m us = k + 1 ↔ (∀ u ∈ us, I u.toNat = true → 0 ≤ rk u.toNat) ∧ (m = k ∨ ∃ u ∈ us, I u.toNat = true ∧ rk u.toNat = k))
  | [], l, m, _, hm, hl => by
    unfold rkF
    by_cases h : l < 0
    · rw [if_pos h]; simp; omega
    · rw [if_neg h, if_neg (by simp)]; simp
  | u :: us, l, m, h, hm, hl => by
    have hu := h u (by simp)
    have ht : ∀ x ∈ us, rk x.toNat ≤ k := fun x hx => h x (by simp [hx])
    rw [rkF]
    by_cases hI : I u.toNat = false
    · rw [if_pos hI, rkF_opp hk us l m ht hm hl]
      simp [hI]
    · have hI' : I u.toNat = true := by simpa using hI
      rw [if_neg hI]
      by_cases hr : 0 ≤ rk u.toNat
      · rw [if_neg (by omega), if_pos hr, rkF_opp hk us _ _ ht (by split <;> omega) (by split <;> split <;> omega)]
        simp only [List.mem_cons, forall_eq_or_imp, exists_eq_or_imp, hI', hr, true_and, forall_const]
        constructor
        · rintro ⟨h1, h2 | h2⟩
          · refine ⟨h1, ?_⟩
            split at h2
            · exact .inr (.inl h2)
            · exact .inl h2
          · exact ⟨h1, .inr (.inr h2)⟩
        · rintro ⟨h1, h2 | h2 | h2⟩
          · exact ⟨h1, .inl (by rw [if_neg (by omega)]; exact h2)⟩
          · refine ⟨h1, .inl ?_⟩
            split <;> omega
          · exact ⟨h1, .inr h2⟩
      · rw [if_pos ⟨by omega, rfl⟩]
        constructor
        · intro h; omega
        · intro ⟨h1, _⟩; exact absurd (h1 u (by simp) hI') hr

/-- What the model asks of a vertex at k is what the rank is. -/
theorem rkF_is {k u : Nat} (hu : rkK zss O who I G k u < 0) (hI : I u = true) : rkF (ownB O who u) I (rkK zss O who I G k) (-1) (-1) (row zss u) = k + 1 ↔ 0 ≤ rkK zss O who I G (k + 1) u := by
  have hk : (0 : Int) ≤ (k : Int) := by omega
  have h2 : 0 ≤ rkK zss O who I G (k + 1) u ↔ CanP (ownB O who u) (fun x => I x = true) (fun x => 0 ≤ rkK zss O who I G k x) (row zss u) := by
    rw [rkK, if_neg (by omega)]
    by_cases hc : CanP (ownB O who u) (fun x => I x = true) (fun x => 0 ≤ rkK zss O who I G k x) (row zss u)
    · rw [if_pos ⟨hI, hc⟩]; exact ⟨fun _ => hc, fun _ => by omega⟩
    · rw [if_neg (fun h => hc h.2)]; exact ⟨fun h => by omega, fun h => absurd h hc⟩
  rw [h2]
  have hold : ∀ j, k = j + 1 → ¬ CanP (ownB O who u) (fun x => I x = true) (fun x => 0 ≤ rkK zss O who I G j x) (row zss u) := fun j hj hc => by
    subst hj
    have hj0 : rkK zss O who I G j u < 0 := by
      by_cases h0 : 0 ≤ rkK zss O who I G j u
      · rw [rkK_old h0] at hu; omega
      · omega
    rw [rkK, if_neg (by omega), if_pos ⟨hI, hc⟩] at hu
    omega
  cases hown : ownB O who u with
  | true =>
    rw [hown] at hold
    rw [rkF_own hk (row zss u) (-1) (-1) (fun x hx hIx => ?_) (.inl (by omega))]
    · unfold CanP
      rw [if_pos rfl]
      constructor
      · rintro (h | h)
        · omega
        · exact h
      · exact .inr
    · cases k with
      | zero =>
        have := rkK_bound (zss := zss) (O := O) (who := who) (I := I) (G := G) 0 x.toNat
        omega
      | succ j =>
        by_cases h0 : 0 ≤ rkK zss O who I G (j + 1) x.toNat
        · right
          by_cases h1 : 0 ≤ rkK zss O who I G j x.toNat
          · exact absurd (by unfold CanP; rw [if_pos rfl]; exact ⟨x, hx, hIx, h1⟩) (hold j rfl)
          · rw [rkK_new (by omega) h0]; omega
        · left; omega
  | false =>
    rw [hown] at hold
    rw [rkF_opp hk (row zss u) (-1) (-1) (fun x _ => (rkK_bound k x.toNat).2) (by omega) (by omega)]
    unfold CanP
    rw [if_neg (by simp)]
    constructor
    · rintro ⟨h1, h | ⟨x, hx, hIx, _⟩⟩
      · omega
      · exact ⟨⟨x, hx, hIx⟩, h1⟩
    · rintro ⟨⟨x, hx, hIx⟩, h1⟩
      refine ⟨h1, .inr ?_⟩
      apply Classical.byContradiction
      intro hno
      cases k with
      | zero =>
        have h3 := h1 x hx hIx
        have := rkK_bound (zss := zss) (O := O) (who := who) (I := I) (G := G) 0 x.toNat
        exact hno ⟨x, hx, hIx, by omega⟩
      | succ j =>
        refine hold j rfl ?_
        unfold CanP
        rw [if_neg (by simp)]
        refine ⟨⟨x, hx, hIx⟩, fun y hy hIy => ?_⟩
        have h3 := h1 y hy hIy
        have h4 := rkK_bound (zss := zss) (O := O) (who := who) (I := I) (G := G) (j + 1) y.toNat
        refine rkK_small h3 ?_
        by_cases h5 : rkK zss O who I G (j + 1) y.toNat = ((j + 1 : Nat) : Int)
        · exact absurd ⟨y, hy, hIy, h5⟩ hno
        · omega

/-- A round that gives no rank is the last one. -/
theorem rkK_still {k : Nat} (hin : ∀ u : Nat, u < zss.length → ∀ x ∈ row zss u, ∃ v : Nat, x = (v : Int) ∧ v < zss.length) (h : ∀ u, u < zss.length → rkK zss O who I G (k + 1) u = rkK zss O who I G k u) :
    ∀ j, ∀ u, u < zss.length → rkK zss O who I G (k + j) u = rkK zss O who I G k u
  | 0, u, _ => rfl
  | j + 1, u, hu => by
    have ih := rkK_still hin h j
    rw [← h u hu]
    show rkK zss O who I G ((k + j) + 1) u = _
    by_cases h0 : 0 ≤ rkK zss O who I G (k + j) u
    · rw [rkK_old h0, ih u hu, rkK_old (by rw [← ih u hu]; exact h0)]
    · have h0' : ¬ 0 ≤ rkK zss O who I G k u := by rw [← ih u hu]; exact h0
      have hc : CanP (ownB O who u) (fun x => I x = true) (fun x => 0 ≤ rkK zss O who I G (k + j) x) (row zss u) ↔ CanP (ownB O who u) (fun x => I x = true) (fun x => 0 ≤ rkK zss O who I G k x) (row zss u) := by
        have e : ∀ x ∈ row zss u, (0 ≤ rkK zss O who I G (k + j) x.toNat ↔ 0 ≤ rkK zss O who I G k x.toNat) := fun x hx => by
          obtain ⟨v, rfl, hv⟩ := hin u hu x hx
          rw [Int.toNat_natCast, ih v hv]
        unfold CanP
        split
        · exact ⟨fun ⟨x, h1, h2, h3⟩ => ⟨x, h1, h2, (e x h1).1 h3⟩, fun ⟨x, h1, h2, h3⟩ => ⟨x, h1, h2, (e x h1).2 h3⟩⟩
        · exact ⟨fun ⟨h1, h2⟩ => ⟨h1, fun x hx hI => (e x hx).1 (h2 x hx hI)⟩, fun ⟨h1, h2⟩ => ⟨h1, fun x hx hI => (e x hx).2 (h2 x hx hI)⟩⟩
      have hk1 := h u hu
      rw [rkK, if_neg h0, rkK, if_neg h0']
      rw [rkK, if_neg h0'] at hk1
      by_cases hcc : I u = true ∧ CanP (ownB O who u) (fun x => I x = true) (fun x => 0 ≤ rkK zss O who I G k x) (row zss u)
      · rw [if_pos hcc] at hk1; omega
      · rw [if_neg (fun hh => hcc ⟨hh.1, hc.1 hh.2⟩), if_neg hcc]


end Go.Proofs.Ythelpfilgamdfaa
