/-
  The two ways to the components give one list. No program text.
-/
import Derived.Test.YtkfmaajhemijlaaKosa3
namespace Go.Proofs.Ytkfmaajhemijlaa
open Go.RowKit

/-- The first element. -/
def hd (p : List Int) : Int := nth p 0

theorem keyed_ext {l m : List (List Int)} (h1 : l.Pairwise fun p q => hd p < hd q) (h2 : m.Pairwise fun p q => hd p < hd q) (h : ∀ p, p ∈ l ↔ p ∈ m) : l = m := by
  have n1 : l.Nodup := h1.imp fun hab e => by rw [e] at hab; omega
  have n2 : m.Nodup := h2.imp fun hab e => by rw [e] at hab; omega
  exact ((List.perm_ext_iff_of_nodup n1 n2).2 h).eq_of_pairwise (le := fun p q => hd p < hd q) (fun a b _ _ h1 h2 => by omega) h1 h2

theorem hd_mem {p : List Int} {x : Int} (h : x ∈ p) : hd p ∈ p := by
  match p with
  | [] => cases h
  | a :: r => simp [hd, nth]
theorem hd_least {p : List Int} {v : Int} (hp : p.Pairwise (· < ·)) (hv : v ∈ p) (hl : ∀ x ∈ p, v ≤ x) : hd p = v := by
  match p with
  | [] => cases hv
  | a :: r =>
    have h1 := hl a (by simp)
    have e : hd (a :: r) = a := by simp [hd, nth]
    rw [e]
    rcases List.mem_cons.1 hv with rfl | hv
    · rfl
    · have := (List.pairwise_cons.1 hp).1 v hv
      omega

/-- The marks of a set. -/
structure SetO (S : List Int) (o : Nat → Bool) : Prop where
  iff : ∀ i : Nat, o i = true ↔ (i : Int) ∈ S
  rise : S.Pairwise (· < ·)
  nat : ∀ x ∈ S, ∃ u : Nat, x = (u : Int)

open Classical in
theorem farF_iff {zss : List (List Int)} {S : List Int} {v u : Nat} : farF zss S v u = true ↔ Rch zss (openS S S.length) [(v : Int)] u := by
  unfold farF beyM; exact decide_eq_true_iff

theorem openS_all (S : List Int) (i : Nat) : openS S S.length i = true ↔ (i : Int) ∈ S := by simp [openS]

theorem partF_cls {zss : List (List Int)} {S : List Int} {v : Nat} (hS : SetO S (openS S S.length)) (hv : (v : Int) ∈ S) (hl : Loop zss (openS S S.length) v) : partF (farF zss S) S v = cls zss (openS S S.length) S v := by
  unfold partF cls
  refine List.filter_congr fun x hx => ?_
  obtain ⟨u, rfl⟩ := hS.nat x hx
  have hou := (hS.iff u).2 hx
  have hov := (hS.iff v).2 hv
  rw [Bool.eq_iff_iff]
  simp only [Bool.and_eq_true, farF_iff, Int.toNat_natCast, decide_eq_true_eq]
  by_cases e : u = v
  · subst e; exact ⟨fun _ => .refl hov, fun _ => ⟨hl, hl⟩⟩
  · exact ⟨fun ⟨h1, h2⟩ => ⟨rch_pth hou h2, rch_pth hov h1⟩, fun ⟨h1, h2⟩ => ⟨pth_rch h2 e, pth_rch h1 (fun h => e h.symm)⟩⟩

/-- What the model has behind k elements. -/
structure ModP (zss : List (List Int)) (o : Nat → Bool) (S : List Int) (k : Nat) (out : List (List Int)) (d : Nat → Bool) : Prop where
  a : ∀ p ∈ out, ∃ v : Nat, (v : Int) ∈ S.take k ∧ Loop zss o v ∧ p = cls zss o S v
  b : ∀ v : Nat, (v : Int) ∈ S.take k → Loop zss o v → cls zss o S v ∈ out
  c : ∀ u : Nat, d u = true ↔ ∃ v : Nat, (v : Int) ∈ S.take k ∧ Loop zss o v ∧ Mut zss o u v
  e : out.Pairwise fun p q => hd p < hd q
  g : ∀ p ∈ out, hd p ∈ S.take k

theorem loopsK_mod {zss : List (List Int)} {S : List Int} (hS : SetO S (openS S S.length)) : ∀ k, k ≤ S.length → ModP zss (openS S S.length) S k (loopsK (farF zss S) S k).1 (loopsK (farF zss S) S k).2
  | 0, _ => ⟨fun p hp => by simp [loopsK] at hp, fun v hv => by simp at hv, fun u => by simp [loopsK], by simp [loopsK], fun p hp => by simp [loopsK] at hp⟩
  | k + 1, hk => by
    have ih := loopsK_mod (zss := zss) hS k (by omega)
    obtain ⟨v, hv⟩ := hS.nat _ (nth_mem (show k < S.length by omega))
    have hvS : (v : Int) ∈ S := by rw [← hv]; exact nth_mem (by omega)
    have hov := (hS.iff v).2 hvS
    have ht : S.take (k + 1) = S.take k ++ [(v : Int)] := by
      rw [List.take_add_one, List.getElem?_eq_getElem (by omega), ← hv, nth_eq (by omega)]; rfl
    have hlt : ∀ x ∈ S.take k, x < (v : Int) := fun x hx => by
      have hp := hS.rise
      rw [← List.take_append_drop (k + 1) S, ht, List.append_assoc] at hp
      exact (List.pairwise_append.1 hp).2.2 x hx (v : Int) (by simp)
    have hvt : (nth S k).toNat = v := by rw [hv]; simp
    have hmemS : ∀ i : Nat, openS S S.length i = true → (i : Int) ∈ S := fun i hi => (hS.iff i).1 hi
    rw [loopsK, hvt]
    cases hd1 : (loopsK (farF zss S) S k).2 v with
    | true =>
      simp only [Bool.true_or, if_true]
      obtain ⟨w, hw1, hw2, hw3⟩ := (ih.c v).1 hd1
      refine ⟨fun p hp => ?_, fun u hu hl => ?_, fun u => ?_, ih.e, fun p hp => ?_⟩
      · obtain ⟨u, h1, h2, h3⟩ := ih.a p hp
        exact ⟨u, by rw [ht]; simp [h1], h2, h3⟩
      · rw [ht] at hu
        rcases List.mem_append.1 hu with hu | hu
        · exact ih.b u hu hl
        · have : u = v := by simp at hu; omega
          subst this
          rw [cls_congr hw3]; exact ih.b w hw1 hw2
      · rw [ih.c u]
        constructor
        · rintro ⟨z, h1, h2, h3⟩; exact ⟨z, by rw [ht]; simp [h1], h2, h3⟩
        · rintro ⟨z, h1, h2, h3⟩
          rw [ht] at h1
          rcases List.mem_append.1 h1 with h1 | h1
          · exact ⟨z, h1, h2, h3⟩
          · have : z = v := by simp at h1; omega
            subst this
            exact ⟨w, hw1, hw2, h3.trans hw3⟩
      · have := ih.g p hp; rw [ht]; simp [this]
    | false =>
      cases hf : farF zss S v v with
      | false =>
        simp only [Bool.false_or, Bool.not_false, if_true]
        have hnl : ¬ Loop zss (openS S S.length) v := fun h => by rw [farF_iff.2 h] at hf; cases hf
        refine ⟨fun p hp => ?_, fun u hu hl => ?_, fun u => ?_, ih.e, fun p hp => ?_⟩
        · obtain ⟨u, h1, h2, h3⟩ := ih.a p hp
          exact ⟨u, by rw [ht]; simp [h1], h2, h3⟩
        · rw [ht] at hu
          rcases List.mem_append.1 hu with hu | hu
          · exact ih.b u hu hl
          · have : u = v := by simp at hu; omega
            subst this; exact absurd hl hnl
        · rw [ih.c u]
          constructor
          · rintro ⟨z, h1, h2, h3⟩; exact ⟨z, by rw [ht]; simp [h1], h2, h3⟩
          · rintro ⟨z, h1, h2, h3⟩
            rw [ht] at h1
            rcases List.mem_append.1 h1 with h1 | h1
            · exact ⟨z, h1, h2, h3⟩
            · have : z = v := by simp at h1; omega
              subst this; exact absurd h2 hnl
        · have := ih.g p hp; rw [ht]; simp [this]
      | true =>
        have hl : Loop zss (openS S S.length) v := farF_iff.1 hf
        simp only [Bool.false_or, Bool.not_true, Bool.false_eq_true, if_false]
        rw [partF_cls hS hvS hl]
        have hself : (v : Int) ∈ cls zss (openS S S.length) S v := (cls_mem hmemS).2 (.refl hov)
        have hrise : (cls zss (openS S S.length) S v).Pairwise (· < ·) := hS.rise.sublist List.filter_sublist
        have hhd : hd (cls zss (openS S S.length) S v) = (v : Int) := hd_least hrise hself fun x hx => by
          have hxS : x ∈ S := (List.mem_filter.1 hx).1
          obtain ⟨u, rfl⟩ := hS.nat x hxS
          have hm := (cls_mem hmemS).1 hx
          apply Classical.byContradiction
          intro hlt2
          have hin : (u : Int) ∈ S.take k := by
            have hx2 := hxS
            rw [← List.take_append_drop (k + 1) S, ht] at hx2
            rcases List.mem_append.1 hx2 with h | h
            · rcases List.mem_append.1 h with h | h
              · exact h
              · simp at h; omega
            · have hp := hS.rise
              rw [← List.take_append_drop (k + 1) S, ht] at hp
              have := (List.pairwise_append.1 hp).2.2 (v : Int) (by simp) (u : Int) h
              omega
          have := (ih.c v).2 ⟨u, hin, hl.of_mut hm, hm.symm⟩
          rw [hd1] at this; cases this
        refine ⟨fun p hp => ?_, fun u hu hlu => ?_, fun u => ?_, List.pairwise_append.2 ⟨ih.e, by simp, fun p hp q hq => ?_⟩, fun p hp => ?_⟩
        · rcases List.mem_append.1 hp with hp | hp
          · obtain ⟨u, h1, h2, h3⟩ := ih.a p hp
            exact ⟨u, by rw [ht]; simp [h1], h2, h3⟩
          · exact ⟨v, by rw [ht]; simp, hl, by simpa using hp⟩
        · rw [ht] at hu
          rcases List.mem_append.1 hu with hu | hu
          · exact List.mem_append.2 (.inl (ih.b u hu hlu))
          · have : u = v := by simp at hu; omega
            subst this; simp
        · rw [Bool.or_eq_true, ih.c u, hasB_iff, cls_mem hmemS]
          constructor
          · rintro (⟨z, h1, h2, h3⟩ | h)
            · exact ⟨z, by rw [ht]; simp [h1], h2, h3⟩
            · exact ⟨v, by rw [ht]; simp, hl, h⟩
          · rintro ⟨z, h1, h2, h3⟩
            rw [ht] at h1
            rcases List.mem_append.1 h1 with h1 | h1
            · exact .inl ⟨z, h1, h2, h3⟩
            · have : z = v := by simp at h1; omega
              subst this; exact .inr h3
        · have hq' : q = cls zss (openS S S.length) S v := by simpa using hq
          rw [hq', hhd]
          exact hlt _ (ih.g p hp)
        · rcases List.mem_append.1 hp with hp | hp
          · have := ih.g p hp; rw [ht]; simp [this]
          · have hp' : p = cls zss (openS S S.length) S v := by simpa using hp
            rw [hp', hhd, ht]; simp

/-- Whoever gives each component once, by the smallest first, gives the model's list. -/
theorem loops_eq {zss : List (List Int)} {S vs : List Int} {R R0 : List (List Int)} (hS : SetO S (openS S S.length)) (h : KosR zss (openS S S.length) (openS S S.length) S vs R0) (hvs : ∀ x ∈ S, x ∈ vs) (hp : R.Perm R0) (hs : R.Pairwise fun p q => ¬ hd q < hd p) :
    R = loopsS zss S := by
  have hm := loopsK_mod (zss := zss) hS S.length (Nat.le_refl _)
  have hmemS : ∀ i : Nat, openS S S.length i = true → (i : Int) ∈ S := fun i hi => (hS.iff i).1 hi
  have hne : ∀ p ∈ R0, hd p ∈ p := fun p hp => by
    obtain ⟨v, h1, _, h3⟩ := h.c1 p hp
    rw [h3]
    exact hd_mem ((cls_mem hmemS).2 (.refl h1))
  have hsym : ∀ {p q : List Int}, (∀ x ∈ p, x ∉ q) → (∀ x ∈ q, x ∉ p) := fun hh x hx hp => hh x hp hx
  have hdis : R.Pairwise fun p q => ∀ x ∈ p, x ∉ q := (hp.pairwise_iff (fun hh => hsym hh)).2 h.c3
  refine keyed_ext ?_ hm.e fun p => ?_
  · refine (hs.and hdis).imp_of_mem fun {a b} ha hb ⟨h1, h2⟩ => ?_
    have e1 := hne a (hp.mem_iff.1 ha)
    have e2 := hne b (hp.mem_iff.1 hb)
    have : hd a ≠ hd b := fun e => h2 (hd a) e1 (by rw [e]; exact e2)
    omega
  · rw [hp.mem_iff]
    constructor
    · intro hpr
      obtain ⟨v, h1, h2, h3⟩ := h.c1 p hpr
      rw [h3]; exact hm.b v (by rw [List.take_length]; exact hmemS v h1) h2
    · intro hpm
      obtain ⟨v, h1, h2, h3⟩ := hm.a p hpm
      rw [List.take_length] at h1
      rw [h3]; exact h.c2 v ((hS.iff v).2 h1) (hvs _ h1) h2

end Go.Proofs.Ytkfmaajhemijlaa
