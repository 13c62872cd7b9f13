/-
  What the cursor's walk leaves behind. No program text.
-/
import Derived.Test.YtaoagikipbcjpaaCursor
namespace Go.Proofs.Ytaoagikipbcjpaa
open Go.RowKit

/-- What one walk from the vertices us does. -/
structure WalkP (zss : List (List Int)) (o : Nat → Bool) (us : List Int) (r : (Nat → Bool) × List Int) : Prop where
  shut : ∀ i, r.1 i = true → o i = true
  mem : ∀ i, i < zss.length → ((i : Int) ∈ r.2 ↔ o i = true ∧ r.1 i = false)
  nat : ∀ x ∈ r.2, ∃ i : Nat, x = (i : Int) ∧ i < zss.length
  nodup : r.2.Nodup
  reach : ∀ i, i < zss.length → o i = true → r.1 i = false → (i : Int) ∈ us ∨ Rch zss (fun _ => true) us i
  clos : ∀ i, i < zss.length → o i = true → r.1 i = false → ∀ j : Nat, (j : Int) ∈ row zss i → r.1 j = false
  self : ∀ u : Nat, (u : Int) ∈ us → r.1 u = false

theorem rch_mono {zss : List (List Int)} {I : Nat → Bool} {F G : List Int} (h : ∀ x ∈ F, x ∈ G) {v : Nat} (hr : Rch zss I F v) : Rch zss I G v := by
  induction hr with
  | one hf hm hI => exact .one (h _ hf) hm hI
  | more _ hm hI ih => exact .more ih hm hI

theorem rch_from {zss : List (List Int)} {I : Nat → Bool} {F : List Int} {w : Nat} (hw : ∀ u : Nat, (u : Int) ∈ F → (u : Int) ∈ row zss w ∧ I u = true) {G : List Int} (hG : (w : Int) ∈ G) {v : Nat} (hr : Rch zss I F v) : Rch zss I G v := by
  induction hr with
  | one hf hm hI => exact .more (.one hG (hw _ hf).1 (hw _ hf).2) hm hI
  | more _ hm hI ih => exact .more ih hm hI

theorem WalkP.list {zss : List (List Int)} {step : (Nat → Bool) → Nat → (Nat → Bool) × List Int} {m : Nat} (h : ∀ o v, v < zss.length → opens o zss.length < m → WalkP zss o [(v : Int)] (step o v)) (us : List Int) (hus : ∀ x ∈ us, ∃ v : Nat, x = (v : Int) ∧ v < zss.length) :
    ∀ o, opens o zss.length < m → WalkP zss o us (dfsL step o us) := by
  induction us with
  | nil => intro o _; exact ⟨fun i h => h, fun i _ => by simp [dfsL], fun x hx => by simp [dfsL] at hx, by simp [dfsL], fun i _ h1 h2 => by simp [dfsL, h1] at h2, fun i _ h1 h2 => by simp [dfsL, h1] at h2, fun u hu => by simp at hu⟩
  | cons u us ih =>
    intro o ho
    obtain ⟨v, hv, hvn⟩ := hus u (by simp)
    subst hv
    have h1 := h o v hvn ho
    have h2 := ih (fun x hx => hus x (by simp [hx])) (step o v).1 (Nat.lt_of_le_of_lt (opens_mono fun i _ hi => h1.shut i hi) ho)
    have hstay : ∀ i, (step o v).1 i = false → (dfsL step (step o v).1 us).1 i = false := fun i hi => by
      cases hb : (dfsL step (step o v).1 us).1 i with
      | false => rfl
      | true => rw [h2.shut i hb] at hi; cases hi
    refine ⟨fun i hi => ?_, fun i hi => ?_, fun x hx => ?_, ?_, fun i hi hoi hr => ?_, fun i hi hoi hr j hj => ?_, fun w hw => ?_⟩
    · simp only [dfsL, Int.toNat_natCast] at hi
      exact h1.shut i (h2.shut i hi)
    · simp only [dfsL, Int.toNat_natCast, List.mem_append, h1.mem i hi, h2.mem i hi]
      constructor
      · rintro (⟨ha, hb⟩ | ⟨ha, hb⟩)
        · exact ⟨ha, hstay i hb⟩
        · exact ⟨h1.shut i ha, hb⟩
      · rintro ⟨ha, hb⟩
        cases hc : (step o v).1 i with
        | false => exact .inl ⟨ha, rfl⟩
        | true => exact .inr ⟨rfl, hb⟩
    · simp only [dfsL, Int.toNat_natCast, List.mem_append] at hx
      exact hx.elim (h1.nat x) (h2.nat x)
    · simp only [dfsL, Int.toNat_natCast]
      refine List.nodup_append.2 ⟨h1.nodup, h2.nodup, fun a ha b hb hab => ?_⟩
      subst hab
      obtain ⟨i, rfl, hi⟩ := h1.nat a ha
      have q1 := ((h1.mem i hi).1 ha).2
      have q2 := ((h2.mem i hi).1 hb).1
      rw [q1] at q2; cases q2
    · simp only [dfsL, Int.toNat_natCast] at hr
      cases hc : (step o v).1 i with
      | false =>
        rcases h1.reach i hi hoi hc with hh | hh
        · left; simp at hh; simp; left; omega
        · right; exact rch_mono (fun x hx => by simp at hx; simp [hx]) hh
      | true =>
        rcases h2.reach i hi hc hr with hh | hh
        · left; simp [hh]
        · right; exact rch_mono (fun x hx => by simp [hx]) hh
    · simp only [dfsL, Int.toNat_natCast] at hr ⊢
      cases hc : (step o v).1 i with
      | false => exact hstay j (h1.clos i hi hoi hc j hj)
      | true => exact h2.clos i hi hc hr j hj
    · simp only [dfsL, Int.toNat_natCast]
      simp only [List.mem_cons] at hw
      rcases hw with hw | hw
      · exact hstay w (h1.self w (by simp; omega))
      · exact h2.self w hw

theorem dfs_walk {zss : List (List Int)} (hin : ∀ u : Nat, u < zss.length → ∀ x ∈ row zss u, ∃ v : Nat, x = (v : Int) ∧ v < zss.length) : ∀ f o v, v < zss.length → opens o zss.length < f → WalkP zss o [(v : Int)] (dfs zss f o v) := by
  intro f
  induction f with
  | zero => intro o v _ h; omega
  | succ f ih =>
    intro o v hv hf
    cases ho : o v with
    | false =>
      have hd : dfs zss (f + 1) o v = (o, []) := by simp [dfs, ho]
      rw [hd]
      refine ⟨fun i h => h, fun i _ => by simp, fun x hx => by simp at hx, by simp, fun i _ h1 h2 => by simp [h1] at h2, fun i _ h1 h2 => by simp [h1] at h2, fun u hu => ?_⟩
      have hu' : u = v := by simp at hu; omega
      subst hu'
      exact ho
    | true =>
      have hs := opens_shut hv ho
      have h := WalkP.list (m := f) ih (row zss v) (hin v hv) (mark1 o v false) (by omega)
      have hd : dfs zss (f + 1) o v = ((dfsL (dfs zss f) (mark1 o v false) (row zss v)).1, (dfsL (dfs zss f) (mark1 o v false) (row zss v)).2 ++ [(v : Int)]) := by simp [dfs, ho]
      rw [hd]
      have hvf : (dfsL (dfs zss f) (mark1 o v false) (row zss v)).1 v = false := by
        cases hb : (dfsL (dfs zss f) (mark1 o v false) (row zss v)).1 v with
        | false => rfl
        | true => have := h.shut v hb; simp [mark1] at this
      have hne : ∀ i, i ≠ v → mark1 o v false i = o i := fun i hi => by simp [mark1, hi]
      refine ⟨fun i hi => ?_, fun i hi => ?_, fun x hx => ?_, ?_, fun i hi hoi hr => ?_, fun i hi hoi hr j hj => ?_, fun w hw => ?_⟩
      · have := h.shut i hi
        by_cases e : i = v
        · subst e; exact ho
        · rwa [hne i e] at this
      · simp only [List.mem_append, h.mem i hi, List.mem_singleton]
        by_cases e : i = v
        · subst e; simp [hvf, ho]
        · rw [hne i e]
          constructor
          · rintro (h1 | h1)
            · exact h1
            · omega
          · exact .inl
      · rcases List.mem_append.1 hx with hx | hx
        · exact h.nat x hx
        · exact ⟨v, by simpa using hx, hv⟩
      · refine List.nodup_append.2 ⟨h.nodup, by simp, fun a ha b hb hab => ?_⟩
        subst hab
        have hb' : a = (v : Int) := by simpa using hb
        subst hb'
        have := ((h.mem v hv).1 ha).1
        simp [mark1] at this
      · by_cases e : i = v
        · subst e; left; simp
        · right
          rcases h.reach i hi (by rw [hne i e]; exact hoi) hr with hh | hh
          · exact .one (by simp) hh rfl
          · exact rch_from (w := v) (fun u hu => ⟨hu, rfl⟩) (by simp) hh
      · by_cases e : i = v
        · subst e; exact h.self j hj
        · exact h.clos i hi (by rw [hne i e]; exact hoi) hr j hj
      · have : w = v := by simp at hw; omega
        subst this; exact hvf

theorem markedK_rising (xs : Nat → Bool) (k : Nat) : (markedK xs k).Pairwise (· < ·) := by
  induction k with
  | zero => simp [markedK]
  | succ k ih =>
    simp only [markedK]
    refine List.pairwise_append.2 ⟨ih, by split <;> simp, fun a ha b hb => ?_⟩
    obtain ⟨v, rfl, hv, _⟩ := (markedK_mem xs k a).1 ha
    split at hb
    · simp at hb; omega
    · simp at hb

/-- What the walk from F leaves behind, sorted, is what is reached. -/
theorem walk_sorted {zss : List (List Int)} (hin : ∀ u : Nat, u < zss.length → ∀ x ∈ row zss u, ∃ v : Nat, x = (v : Int) ∧ v < zss.length) {F : List Int} (hF : ∀ x ∈ F, ∃ v : Nat, x = (v : Int) ∧ v < zss.length) {o : Nat → Bool} (ho : ∀ i, i < zss.length → o i = true) {f : Nat} (hf : opens o zss.length < f) :
    ((dfsL (dfs zss f) o F).2.mergeSort fun x y => decide (x ≤ y)) = markedK (reachM zss F) zss.length := by
  have h := WalkP.list (m := f) (dfs_walk hin f) F hF o hf
  have key : ∀ v, Rch zss (fun _ => true) F v → v < zss.length ∧ (dfsL (dfs zss f) o F).1 v = false := by
    intro v hr
    induction hr with
    | @one u v hu hm _ =>
      obtain ⟨u', h1, h2⟩ := hF _ hu
      have e : u = u' := by omega
      subst e
      obtain ⟨v', h3, h4⟩ := hin u h2 _ hm
      exact ⟨by omega, h.clos u h2 (ho u h2) (h.self u hu) v hm⟩
    | @more u v _ hm _ ih =>
      obtain ⟨v', h3, h4⟩ := hin u ih.1 _ hm
      exact ⟨by omega, h.clos u ih.1 (ho u ih.1) ih.2 v hm⟩
  have hmem : ∀ x, x ∈ (dfsL (dfs zss f) o F).2 ↔ x ∈ markedK (reachM zss F) zss.length := by
    intro x
    rw [markedK_mem]
    constructor
    · intro hx
      obtain ⟨i, rfl, hi⟩ := h.nat x hx
      have h2 := (h.mem i hi).1 hx
      exact ⟨i, rfl, hi, by simpa [reachM] using h.reach i hi h2.1 h2.2⟩
    · rintro ⟨v, rfl, hv, hr⟩
      refine (h.mem v hv).2 ⟨ho v hv, ?_⟩
      have hr' : (v : Int) ∈ F ∨ Rch zss (fun _ => true) F v := by simpa [reachM] using hr
      rcases hr' with hh | hh
      · exact h.self v hh
      · exact (key v hh).2
  have hnd : (markedK (reachM zss F) zss.length).Nodup := (markedK_rising _ _).imp fun hab => by omega
  have hp : ((dfsL (dfs zss f) o F).2.mergeSort fun x y => decide (x ≤ y)).Perm (markedK (reachM zss F) zss.length) :=
    (List.mergeSort_perm _ _).trans ((List.perm_ext_iff_of_nodup h.nodup hnd).2 hmem)
  refine hp.eq_of_pairwise (le := fun x y => x ≤ y) (fun a b _ _ h1 h2 => by omega) ?_ ((markedK_rising _ _).imp fun hab => by omega)
  have := List.pairwise_mergeSort (le := fun x y : Int => decide (x ≤ y)) (fun a b c h1 h2 => by simp at *; omega) (fun a b => by simp; omega) (dfsL (dfs zss f) o F).2
  exact this.imp fun hab => by simpa using hab

end Go.Proofs.Ytaoagikipbcjpaa
