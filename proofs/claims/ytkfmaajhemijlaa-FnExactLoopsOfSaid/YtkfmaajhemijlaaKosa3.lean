/-
  What the second pass gives: each component with a way back to itself, once. No program text.
-/
import Derived.Test.YtkfmaajhemijlaaKosa2
import Derived.Test.YtkfmaajhemijlaaLoops
import Derived.Test.YtkfmaajhemijlaaUnion
namespace Go.Proofs.Ytkfmaajhemijlaa
open Go.RowKit

open Classical in
/-- The component of v. -/
noncomputable def cls (zss : List (List Int)) (o : Nat → Bool) (S : List Int) (v : Nat) : List Int := S.filter fun x => decide (Mut zss o x.toNat v)

/-- Is a walk's part a component with a way back? -/
def kosC (zss : List (List Int)) (v : Int) (part : List Int) : Bool := decide (1 < part.length) || (part.length == 1 && hasB (row zss v.toNat) v)

/-- What the second pass appends, from the open vertices o on. -/
def kosR (zss ps : List (List Int)) (f : Nat) : (Nat → Bool) → List Int → List (List Int)
  | _, [] => []
  | o, v :: vs => (if kosC zss v (dfs ps f o v.toNat).2 then [(dfs ps f o v.toNat).2.mergeSort fun x y => decide (x ≤ y)] else []) ++ kosR zss ps f (dfs ps f o v.toNat).1 vs

theorem pth_rch {zss : List (List Int)} {o : Nat → Bool} {v u : Nat} (h : Pth zss o v u) (hne : u ≠ v) : Rch zss o [(v : Int)] u := by
  have key : u = v ∨ Rch zss o [(v : Int)] u := by
    induction h with
    | refl _ => exact .inl rfl
    | @tail y z hp hm ho ih =>
      right
      by_cases e : y = v
      · subst e; exact .one (by simp) hm ho
      · rcases ih e with h1 | h1
        · exact absurd h1 e
        · exact .more h1 hm ho
  exact key.resolve_left hne
theorem rch_pth {zss : List (List Int)} {o : Nat → Bool} {v u : Nat} (hv : o v = true) (h : Rch zss o [(v : Int)] u) : Pth zss o v u := by
  induction h with
  | @one a b hf hm ho =>
    have : a = v := by simp at hf; omega
    subst this
    exact .tail (.refl hv) hm ho
  | more _ hm ho ih => exact .tail ih hm ho
theorem rch_trans {zss : List (List Int)} {o : Nat → Bool} {v u z : Nat} (h : Rch zss o [(v : Int)] u) (k : Pth zss o u z) : Rch zss o [(v : Int)] z := by
  induction k with
  | refl _ => exact h
  | tail _ hm ho ih => exact .more ih hm ho

/-- A way back. -/
def Loop (zss : List (List Int)) (o : Nat → Bool) (v : Nat) : Prop := Rch zss o [(v : Int)] v

theorem Loop.of_mut {zss : List (List Int)} {o : Nat → Bool} {v w : Nat} (h : Loop zss o v) (m : Mut zss o w v) : Loop zss o w := by
  by_cases e : w = v
  · subst e; exact h
  · exact rch_trans (pth_rch m.1 (fun hh => e hh.symm)) m.2

theorem two_len {L : List Int} {a b : Int} (ha : a ∈ L) (hb : b ∈ L) (hne : a ≠ b) : 1 < L.length := by
  match L with
  | [] => cases ha
  | [x] => simp at ha hb; exact absurd (ha.trans hb.symm) hne
  | _ :: _ :: _ => simp

theorem kosC_iff {zss : List (List Int)} {o : Nat → Bool} {part : List Int} {w : Nat} (hw : o w = true) (hmem : ∀ u : Nat, (u : Int) ∈ part ↔ Mut zss o u w) (hnat : ∀ x ∈ part, ∃ u : Nat, x = (u : Int)) (hnd : part.Nodup) : kosC zss (w : Int) part = true ↔ Loop zss o w := by
  have hself : (w : Int) ∈ part := (hmem w).2 (.refl hw)
  have hpos : 0 < part.length := List.length_pos_of_mem hself
  unfold kosC
  rw [Bool.or_eq_true, Bool.and_eq_true, decide_eq_true_eq, beq_iff_eq, hasB_iff, Int.toNat_natCast]
  constructor
  · rintro (h | ⟨_, h⟩)
    · have : ∃ u ∈ part, u ≠ (w : Int) := by
        apply Classical.byContradiction
        intro hn
        have hall : ∀ x ∈ part, x = (w : Int) := fun x hx => Classical.byContradiction fun hh => hn ⟨x, hx, hh⟩
        match part, hnd, h with
        | a :: b :: r, hnd, _ =>
          have h1 := hall a (by simp)
          have h2 := hall b (by simp)
          rw [h1, h2] at hnd
          simp at hnd
      obtain ⟨x, hx, hne⟩ := this
      obtain ⟨u, rfl⟩ := hnat x hx
      have hm := (hmem u).1 hx
      have hne' : u ≠ w := by omega
      exact rch_trans (pth_rch hm.2 hne') hm.1
    · exact .one (by simp) h hw
  · intro h
    have selfloop : (w : Int) ∈ row zss w → 1 < part.length ∨ (part.length = 1 ∧ (w : Int) ∈ row zss w) := fun hm => by
      by_cases e : part.length = 1
      · exact .inr ⟨e, hm⟩
      · exact .inl (by omega)
    have key : ∀ x, Rch zss o [(w : Int)] x → x = w → (1 < part.length ∨ (part.length = 1 ∧ (w : Int) ∈ row zss w)) := fun x hr e => by
      cases hr with
      | @one a b hf hm ho =>
        have ha : a = w := by simp at hf; omega
        rw [ha, e] at hm
        exact selfloop hm
      | @more a b hr hm ho =>
        rw [e] at hm
        by_cases e2 : a = w
        · rw [e2] at hm; exact selfloop hm
        · have hp := rch_pth hw hr
          have hm2 : Mut zss o a w := ⟨.tail (.refl hp.last) hm hw, hp⟩
          exact .inl (two_len hself ((hmem a).2 hm2) (by omega))
    exact key w h rfl

theorem cls_mem {zss : List (List Int)} {o : Nat → Bool} {S : List Int} {v u : Nat} (hS : ∀ i, o i = true → (i : Int) ∈ S) : (u : Int) ∈ cls zss o S v ↔ Mut zss o u v := by
  simp only [cls, List.mem_filter, decide_eq_true_eq, Int.toNat_natCast]
  exact ⟨fun h => h.2, fun h => ⟨hS u h.1.first, h⟩⟩

theorem cls_congr {zss : List (List Int)} {o : Nat → Bool} {S : List Int} {v w : Nat} (h : Mut zss o v w) : cls zss o S v = cls zss o S w := by
  unfold cls
  exact List.filter_congr fun x _ => decide_eq_decide.2 ⟨fun hx => hx.trans h, fun hx => hx.trans h.symm⟩

/-- A component, sorted, is the filter. -/
theorem sort_cls {zss : List (List Int)} {o : Nat → Bool} {S part : List Int} {w : Nat} (hS : ∀ i, o i = true → (i : Int) ∈ S) (hp : S.Pairwise (· < ·)) (hnS : ∀ x ∈ S, ∃ u : Nat, x = (u : Int)) (hmem : ∀ u : Nat, (u : Int) ∈ part ↔ Mut zss o u w) (hnat : ∀ x ∈ part, ∃ u : Nat, x = (u : Int)) (hnd : part.Nodup) :
    (part.mergeSort fun x y => decide (x ≤ y)) = cls zss o S w := by
  have hs := List.pairwise_mergeSort (le := fun x y : Int => decide (x ≤ y)) (fun a b c h1 h2 => by simp at *; omega) (fun a b => by simp; omega) part
  have hn2 : (part.mergeSort fun x y => decide (x ≤ y)).Nodup := (List.mergeSort_perm _ _).nodup_iff.2 hnd
  refine rising_ext ?_ ?_ fun x => ?_
  · exact (hs.and hn2).imp fun ⟨h1, h2⟩ => by simp at h1; omega
  · unfold cls; exact hp.sublist List.filter_sublist
  · rw [List.mem_mergeSort]
    constructor
    · intro hx
      obtain ⟨u, rfl⟩ := hnat x hx
      exact (cls_mem hS).2 ((hmem u).1 hx)
    · intro hx
      obtain ⟨u, rfl⟩ := hnS x (List.mem_filter.1 hx).1
      exact (hmem u).2 ((cls_mem hS).1 hx)

/-- What the second pass gives. -/
structure KosR (zss : List (List Int)) (o U : Nat → Bool) (S vs : List Int) (R : List (List Int)) : Prop where
  c1 : ∀ p ∈ R, ∃ v : Nat, U v = true ∧ Loop zss o v ∧ p = cls zss o S v
  c2 : ∀ v : Nat, U v = true → (v : Int) ∈ vs → Loop zss o v → cls zss o S v ∈ R
  c3 : R.Pairwise fun p q => ∀ x ∈ p, x ∉ q

theorem kosR_is {zss ps : List (List Int)} {o : Nat → Bool} {L S us : List Int} {f : Nat} (hP : PredP zss ps) (hon : ∀ i, o i = true → i < zss.length) (hord : OrdP zss o us L) (hnd : L.Nodup) (hall : ∀ i, o i = true → (i : Int) ∈ L) (hLn : ∀ x ∈ L, ∃ v : Nat, x = (v : Int) ∧ v < zss.length)
    (hS : ∀ i, o i = true → (i : Int) ∈ S) (hSp : S.Pairwise (· < ·)) (hSn : ∀ x ∈ S, ∃ u : Nat, x = (u : Int)) (hf : zss.length < f) :
    ∀ (vs B : List Int) (U : Nat → Bool), L = vs.reverse ++ B → KosP zss o U B → KosR zss o U S vs (kosR zss ps f U vs)
  | [], _, _, _, _ => ⟨fun p hp => by simp [kosR] at hp, fun v _ hv => by simp at hv, by simp [kosR]⟩
  | x :: vs, B, U, hL, hk => by
    have hL2 : L = vs.reverse ++ x :: B := by rw [hL]; simp
    obtain ⟨v, hv, hvn⟩ := hLn x (by rw [hL2]; simp)
    subst hv
    have hfo : opens U zss.length < f := Nat.lt_of_le_of_lt (opens_le _ _) hf
    obtain ⟨hk2, hset⟩ := hk.step hP hon hord hnd hall hL2 hvn hfo
    have ih := kosR_is hP hon hord hnd hall hLn hS hSp hSn hf vs ((v : Int) :: B) (dfs ps f U v).1 hL2 hk2
    have hw := dfs_walk hP.nat f U v (by rw [hP.len]; exact hvn) (by rw [hP.len]; exact hfo)
    have hpn : ∀ y ∈ (dfs ps f U v).2, ∃ u : Nat, y = (u : Int) := fun y hy => by obtain ⟨u, hu, _⟩ := hw.nat y hy; exact ⟨u, hu⟩
    have honU : ∀ i, U i = true → i < ps.length := fun i hi => by rw [hP.len]; exact hon i (hk.sub i hi)
    have e : kosR zss ps f U ((v : Int) :: vs) = (if kosC zss (v : Int) (dfs ps f U v).2 then [(dfs ps f U v).2.mergeSort fun x y => decide (x ≤ y)] else []) ++ kosR zss ps f (dfs ps f U v).1 vs := by simp [kosR]
    rw [e]
    cases hU : U v with
    | false =>
      have hemp : (dfs ps f U v).2 = [] := by
        rw [List.eq_nil_iff_forall_not_mem]
        intro y hy
        obtain ⟨u, rfl⟩ := hpn y hy
        have := ((hset u).1 hy).1
        rw [hU] at this; cases this
      have hc : kosC zss (v : Int) (dfs ps f U v).2 = false := by rw [hemp]; simp [kosC]
      rw [hc]
      simp only [Bool.false_eq_true, if_false, List.nil_append]
      have hsame : ∀ i, U i = true → (dfs ps f U v).1 i = true := fun i hi => by
        cases hb : (dfs ps f U v).1 i with
        | true => rfl
        | false => have := (hw.mem i (honU i hi)).2 ⟨hi, hb⟩; rw [hemp] at this; cases this
      refine ⟨fun p hp => ?_, fun u hu hm hl => ?_, ih.c3⟩
      · obtain ⟨u, h1, h2, h3⟩ := ih.c1 p hp
        exact ⟨u, hw.shut u h1, h2, h3⟩
      · rcases List.mem_cons.1 hm with hm | hm
        · have : u = v := by omega
          subst this; rw [hU] at hu; cases hu
        · exact ih.c2 u (hsame u hu) hm hl
    | true =>
      have hov := hk.sub v hU
      have hmem : ∀ u : Nat, (u : Int) ∈ (dfs ps f U v).2 ↔ Mut zss o u v := fun u => (hset u).trans ⟨fun h => h.2, fun h => ⟨hU, h⟩⟩
      have hiff := kosC_iff hov hmem hpn hw.nodup
      have hsort := sort_cls hS hSp hSn hmem hpn hw.nodup
      have hshut : ∀ u : Nat, Mut zss o u v → (dfs ps f U v).1 u = false := fun u hu => by
        have h1 := (hmem u).2 hu
        obtain ⟨i, hi, hin⟩ := hw.nat _ h1
        have : u = i := by omega
        subst this
        exact ((hw.mem u hin).1 h1).2
      have hc2 : ∀ u : Nat, U u = true → (u : Int) ∈ (v : Int) :: vs → Loop zss o u → ¬ Mut zss o u v → cls zss o S u ∈ kosR zss ps f (dfs ps f U v).1 vs := fun u hu hm hl hn => by
        have hb : (dfs ps f U v).1 u = true := by
          cases hb : (dfs ps f U v).1 u with
          | true => rfl
          | false => exact absurd ((hmem u).1 ((hw.mem u (honU u hu)).2 ⟨hu, hb⟩)) hn
        rcases List.mem_cons.1 hm with hm | hm
        · have : u = v := by omega
          subst this
          exact absurd (.refl hov) hn
        · exact ih.c2 u hb hm hl
      cases hc : kosC zss (v : Int) (dfs ps f U v).2 with
      | true =>
        have hloop := hiff.1 hc
        simp only [if_true, List.singleton_append]
        rw [hsort]
        refine ⟨fun p hp => ?_, fun u hu hm hl => ?_, List.pairwise_cons.2 ⟨fun q hq y hy hy2 => ?_, ih.c3⟩⟩
        · rcases List.mem_cons.1 hp with rfl | hp
          · exact ⟨v, hU, hloop, rfl⟩
          · obtain ⟨u, h1, h2, h3⟩ := ih.c1 p hp
            exact ⟨u, hw.shut u h1, h2, h3⟩
        · by_cases hmv : Mut zss o u v
          · rw [cls_congr hmv]; simp
          · exact List.mem_cons_of_mem _ (hc2 u hu hm hl hmv)
        · obtain ⟨u, h1, h2, h3⟩ := ih.c1 q hq
          subst h3
          obtain ⟨z, rfl⟩ := hSn y (List.mem_filter.1 hy).1
          have m1 := (cls_mem hS).1 hy
          have m2 := (cls_mem hS).1 hy2
          rw [hshut u (m2.symm.trans m1)] at h1
          cases h1
      | false =>
        have hnl : ¬ Loop zss o v := fun hl => by rw [hiff.2 hl] at hc; cases hc
        simp only [Bool.false_eq_true, if_false, List.nil_append]
        refine ⟨fun p hp => ?_, fun u hu hm hl => ?_, ih.c3⟩
        · obtain ⟨u, h1, h2, h3⟩ := ih.c1 p hp
          exact ⟨u, hw.shut u h1, h2, h3⟩
        · by_cases hmv : Mut zss o u v
          · exact absurd (hl.of_mut hmv.symm) hnl
          · exact hc2 u hu hm hl hmv

end Go.Proofs.Ytkfmaajhemijlaa
