/-
  LoopsOf's two passes, in the program's own terms. No program text.
-/
import Derived.Test.YtkfmaajhemijlaaKosa4
import Derived.Test.YtkfmaajhemijlaaPredsImpl
import Derived.Test.YtkfmaajhemijlaaReachSpec
namespace Go.Proofs.Ytkfmaajhemijlaa
open Go.RowKit

/-- What the second pass has open and appends behind one more vertex. -/
theorem kosR_snoc (zss ps : List (List Int)) (f : Nat) (v : Int) : ∀ (vs : List Int) (o : Nat → Bool), kosR zss ps f o (vs ++ [v]) = kosR zss ps f o vs ++ (if kosC zss v (dfs ps f (dfsL (dfs ps f) o vs).1 v.toNat).2 then [(dfs ps f (dfsL (dfs ps f) o vs).1 v.toNat).2.mergeSort fun x y => decide (x ≤ y)] else [])
  | [], o => List.append_nil _
  | x :: vs, o => by
    have ih := kosR_snoc zss ps f v vs (dfs ps f o x.toNat).1
    rw [List.cons_append, kosR, ih, kosR, List.append_assoc]
    rfl

theorem predsK_iff (zss : List (List Int)) (u : Int) (k : Nat) (v : Nat) : (v : Int) ∈ predsK zss u k ↔ v < k ∧ u ∈ row zss v := by
  induction k with
  | zero => simp [predsK]
  | succ k ih =>
    simp only [predsK, List.mem_append, ih]
    constructor
    · rintro (⟨h1, h2⟩ | h)
      · exact ⟨by omega, h2⟩
      · split at h
        · next hh =>
          have e : v = k := by simp at h; omega
          subst e; exact ⟨by omega, hasB_iff.1 hh⟩
        · simp at h
    · rintro ⟨h1, h2⟩
      by_cases e : v = k
      · subst e; exact .inr (by rw [if_pos (hasB_iff.2 h2)]; simp)
      · exact .inl ⟨by omega, h2⟩

/-- The predecessors' rows. -/
def predR (zss : List (List Int)) (n : Nat) : List (List Int) := rowsOf n fun u => predsK zss u zss.length

theorem predR_predP {zss : List (List Int)} : PredP zss (predR zss zss.length) where
  len := rowsOf_len _ _
  mem u v hu hv := by rw [predR, rowsOf_row hv, predsK_iff]; exact ⟨fun h => h.2, fun h => ⟨hu, h⟩⟩
  nat v hv x hx := by
    have hl : (predR zss zss.length).length = zss.length := rowsOf_len _ _
    rw [hl] at hv
    rw [predR, rowsOf_row hv] at hx
    have := predsK_mem zss v _ x hx
    exact ⟨x.toNat, by omega, by rw [hl]; omega⟩

theorem predR_short {zss : List (List Int)} {n : Nat} (hn : zss.length ≤ 256) : ∀ u, u < (predR zss n).length → (row (predR zss n) u).length ≤ 256 := fun u hu => by
  have hl : (predR zss n).length = n := rowsOf_len _ _
  rw [predR, rowsOf_row (by omega)]
  exact Nat.le_trans (predsK_len _ _ _) hn

/-- What the first pass leaves behind. -/
def aheadL (zss : List (List Int)) (S : List Int) (f : Nat) : List Int := (dfsL (dfs zss f) (openS S S.length) S).2

theorem setO_of {n : Nat} {S : List Int} (hp : S.Pairwise (· < ·)) (h : setB n S = true) : SetO S (openS S S.length) :=
  ⟨openS_all S, hp, fun x hx => by obtain ⟨u, hu, _⟩ := set_nats h x hx; exact ⟨u, hu⟩⟩

theorem aheadL_walk {zss : List (List Int)} {S : List Int} {f : Nat} (hin : ∀ u : Nat, u < zss.length → ∀ x ∈ row zss u, ∃ v : Nat, x = (v : Int) ∧ v < zss.length) (hS : ∀ x ∈ S, ∃ u : Nat, x = (u : Int) ∧ u < zss.length) (hf : zss.length < f) :
    WalkP zss (openS S S.length) S (dfsL (dfs zss f) (openS S S.length) S) :=
  WalkP.list (dfs_walk hin f) S hS (openS S S.length) (Nat.lt_of_le_of_lt (opens_le _ _) hf)

theorem aheadL_nats {zss : List (List Int)} {S : List Int} {f : Nat} (hin : ∀ u : Nat, u < zss.length → ∀ x ∈ row zss u, ∃ v : Nat, x = (v : Int) ∧ v < zss.length) (hS : ∀ x ∈ S, ∃ u : Nat, x = (u : Int) ∧ u < zss.length) (hf : zss.length < f) :
    ∀ x ∈ aheadL zss S f, ∃ u : Nat, x = (u : Int) ∧ u < zss.length := (aheadL_walk hin hS hf).nat

/-- Both passes, and the sort by the first elements, give the model's list. -/
theorem kos_all {zss R : List (List Int)} {S : List Int} {f : Nat} (hin : ∀ u : Nat, u < zss.length → ∀ x ∈ row zss u, ∃ v : Nat, x = (v : Int) ∧ v < zss.length) (hp : S.Pairwise (· < ·)) (hSB : setB zss.length S = true) (hf : zss.length < f)
    (hR : R.Perm (kosR zss (predR zss zss.length) f (openS S S.length) (aheadL zss S f).reverse)) (hs : R.Pairwise fun p q => ¬ hd q < hd p) : R = loopsS zss S := by
  have hSn := set_nats hSB
  have hw := aheadL_walk hin hSn hf
  have hO := setO_of hp hSB
  have hon : ∀ i, openS S S.length i = true → i < zss.length := fun i hi => by
    obtain ⟨u, hu, hl⟩ := hSn _ ((openS_all S i).1 hi); omega
  have hall : ∀ i, openS S S.length i = true → (i : Int) ∈ aheadL zss S f := fun i hi =>
    (hw.mem i (hon i hi)).2 ⟨hi, hw.self i ((openS_all S i).1 hi)⟩
  have hord : OrdP zss (openS S S.length) S (aheadL zss S f) := OrdP.list (dfs_walk hin f) (dfs_ord hin f) S hSn _ hon (Nat.lt_of_le_of_lt (opens_le _ _) hf)
  have hk := kosR_is (S := S) (f := f) predR_predP hon hord hw.nodup hall hw.nat (fun i hi => (openS_all S i).1 hi) hp hO.nat hf (aheadL zss S f).reverse [] (openS S S.length) (by simp) KosP.start
  refine loops_eq hO hk (fun x hx => ?_) hR hs
  obtain ⟨u, hu, _⟩ := hSn x hx
  subst hu
  exact List.mem_reverse.2 (hall u ((openS_all S u).2 hx))

/-- A component is not empty. -/
theorem kosR_ne (zss ps : List (List Int)) (f : Nat) : ∀ (vs : List Int) (o : Nat → Bool), ∀ p ∈ kosR zss ps f o vs, 0 < p.length
  | [], _, p, h => by simp [kosR] at h
  | v :: vs, o, p, h => by
    rw [kosR, List.mem_append] at h
    rcases h with h | h
    · split at h
      · next hc =>
        have : p = (dfs ps f o v.toNat).2.mergeSort fun x y => decide (x ≤ y) := by simpa using h
        rw [this, List.length_mergeSort]
        unfold kosC at hc
        rw [Bool.or_eq_true, Bool.and_eq_true] at hc
        rcases hc with hc | ⟨hc, _⟩
        · have := of_decide_eq_true hc; omega
        · have := of_decide_eq_true hc; omega
      · simp at h
    · exact kosR_ne zss ps f vs _ p h

theorem kosR_len (zss ps : List (List Int)) (f : Nat) : ∀ (vs : List Int) (o : Nat → Bool), (kosR zss ps f o vs).length ≤ vs.length
  | [], _ => by simp [kosR]
  | v :: vs, o => by
    rw [kosR, List.length_append, List.length_cons]
    have := kosR_len zss ps f vs (dfs ps f o v.toNat).1
    split <;> simp <;> omega

end Go.Proofs.Ytkfmaajhemijlaa
