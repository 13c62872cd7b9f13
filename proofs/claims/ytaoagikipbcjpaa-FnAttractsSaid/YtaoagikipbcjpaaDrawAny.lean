/-
  Contracts: the draw of any arena (l1DrawAny), and the draw for ReachOf.
-/
import Derived.Test.YtaoagikipbcjpaaDrawArena
namespace Go.Proofs.Ytaoagikipbcjpaa
open Go.RowKit

theorem Half4.setOwner {n t g cap v : Nat} {wr : World} {vn : Value} {V : Nat → Value} {O : List Int} {zss : List (List Int)} {x : Int} (h : Half4 n wr t (.slice (some ⟨g, 0, none⟩) O.length cap) vn V O zss) (_hv : v < O.length) (hx : Fits x) :
    Half4 n (wr.setCell ⟨g, v, none⟩ (.int .i64 x)) t (.slice (some ⟨g, 0, none⟩) O.length cap) vn V (O.set v x) zss ∧ Only (fun b => n ≤ b) wr (wr.setCell ⟨g, v, none⟩ (.int .i64 x)) := by
  have ho := h.ints.own
  obtain ⟨hs, hgr⟩ := ho.stored v (.int .i64 x)
  have hgn : n ≤ g := (ho.lt g rfl).1
  have hS : Only (fun b => b = g) wr (wr.setCell ⟨g, v, none⟩ (.int .i64 x)) := Only.setCell (S := fun b => b = g) (Only.refl _ _) (p := ⟨g, v, none⟩) rfl _
  have hl : (O.set v x).length = O.length := by simp
  have hm : (O.map (Value.int .i64)).set v (.int .i64 x) = (O.set v x).map (Value.int .i64) := by rw [List.map_set]
  rw [hm] at hs
  refine ⟨⟨h.base, h.str.only hS (fun e => h.str.not_own ho (by decide) (by rw [e]; rfl)), ?_, (h.rows.only hS (fun g' hg e => own_types h.rows.own ho g' hg (by rw [e]; rfl)) (fun k hk g' hg e => h.apart k hk g' hg (by rw [e]; rfl))).retop, h.apart⟩, hS.mono fun b hb => by omega⟩
  refine OwnInts.mk' (by rw [hl]; exact hs) (by rw [hl]; exact h.ints.len) fun k hk => ?_
  have hm2 := nth_mem hk
  generalize nth (O.set v x) k = y at hm2
  rcases List.mem_or_eq_of_mem_set hm2 with hm2 | rfl
  · obtain ⟨j, hj, e⟩ := mem_nth.1 hm2
    rw [← e]; exact h.ints.fits j hj
  · exact hx

theorem row_set {zss : List (List Int)} {v k : Nat} {zs : List Int} (hv : v < zss.length) : row (zss.set v zs) k = if k = v then zs else row zss k := by
  unfold row
  by_cases e : k = v
  · subst e; simp [hv]
  · rw [if_neg e]; simp [Ne.symm e]

theorem Half4.putRow {n t g cap v : Nat} {wr w7 : World} {vo u : Value} {V : Nat → Value} {O zs : List Int} {zss : List (List Int)} (h : Half4 n wr t vo (.slice (some ⟨g, 0, none⟩) zss.length cap) V O zss) (hv : v < zss.length)
    (hg : Only (fun b => (V v).ownBlock = some b) wr w7) (hu : OwnInts w7 n w7.heap.size u zs) (hw : u.ownBlock = (V v).ownBlock ∨ ∃ X, u.ownBlock = some X ∧ wr.heap.size ≤ X) :
    Half4 n (w7.setCell ⟨g, v, none⟩ u) t vo (.slice (some ⟨g, 0, none⟩) zss.length cap) (fun i => if i = v then u else V i) O (zss.set v zs) ∧ Only (fun b => n ≤ b) wr (w7.setCell ⟨g, v, none⟩ u) := by
  have hVv := h.rows.rows v hv
  have ho := ownsRow_only h.rows.own hg (own_types h.rows.own hVv.own)
  obtain ⟨hs, hgr⟩ := ho.stored v u
  have hgn : n ≤ g := (ho.lt g rfl).1
  have hS : Only (fun b => b = g) w7 (w7.setCell ⟨g, v, none⟩ u) := Only.setCell (S := fun b => b = g) (Only.refl _ _) (p := ⟨g, v, none⟩) rfl _
  have hl : (zss.set v zs).length = zss.length := by simp
  have e : ((List.range zss.length).map V).set v u = (List.range zss.length).map (fun i => if i = v then u else V i) := by
    apply List.ext_getElem?
    intro i
    by_cases hi : i < zss.length
    · by_cases e : i = v
      · subst e; simp [hi]
      · simp [hi, e, Ne.symm e]
    · simp [hi]
  rw [e] at hs
  have hI : OwnInts w7 n w7.heap.size vo O := (h.ints.only hg (fun b hb e => h.apart v hv b e hb)).retop
  have hR : ∀ k, k < zss.length → k ≠ v → OwnInts w7 n w7.heap.size (V k) (row zss k) := fun k hk hne => ((h.rows.rows k hk).only hg (h.rows.apart k v hk hv hne)).retop
  have hown : ∀ {zs' : List Int} {x : Value}, OwnInts w7 n w7.heap.size x zs' → ∀ b, x.ownBlock = some b → ¬ b = g := fun hx b hb e => own_types ho hx.own b (by rw [e]; rfl) hb
  have hstr : Box2 w7 t 30 vo (.slice (some ⟨g, 0, none⟩) zss.length cap) := h.str.only hg (fun e => h.str.not_own hVv.own (by decide) e)
  have hul : ∀ i, i < zss.length → i ≠ v → ∀ b, u.ownBlock = some b → (V i).ownBlock ≠ some b := fun i hi hne b hb hb' => by
    rcases hw with hw | ⟨X, hX, hge⟩
    · rw [hw] at hb; exact h.rows.apart i v hi hv hne b hb' hb
    · rw [hX] at hb; have := (h.rows.rows i hi).top b hb'; simp at hb; omega
  refine ⟨⟨h.base, hstr.only hS (fun e => hstr.not_own ho (by decide) (by rw [e]; rfl)), (hI.only hS (hown hI)).retop, ⟨by rw [hl]; exact hs, fun g' hg => (hs.lt g' hg).2, by rw [hl]; exact h.rows.len, fun k hk => ?_, fun i j hi hj hne b hb hb' => ?_⟩, fun i hi b hb => ?_⟩, ?_⟩
  · rw [hl] at hk
    rw [row_set hv]
    by_cases e : k = v
    · simp only [if_pos e]; exact (hu.only hS (hown hu)).retop
    · simp only [if_neg e]; exact ((hR k hk e).only hS (hown (hR k hk e))).retop
  · rw [hl] at hi hj
    by_cases e1 : i = v
    · rw [if_pos e1] at hb
      rw [if_neg (by omega)] at hb'
      exact hul j hj (by omega) b hb hb'
    · rw [if_neg e1] at hb
      by_cases e2 : j = v
      · rw [if_pos e2] at hb'
        exact hul i hi e1 b hb' hb
      · rw [if_neg e2] at hb'
        exact h.rows.apart i j hi hj hne b hb hb'
  · rw [hl] at hi
    by_cases e1 : i = v
    · simp only [if_pos e1] at hb
      intro hb'
      rcases hw with hw | ⟨X, hX, hge⟩
      · rw [hw] at hb; exact h.apart v hv b hb hb'
      · rw [hX] at hb; have := h.ints.top b hb'; simp at hb; omega
    · simp only [if_neg e1] at hb; exact h.apart i hi b hb
  · exact (hg.mono fun b hb => (hVv.own.lt b hb).1).trans (hS.mono fun b hb => by omega)

theorem made_zero (w : World) (n : Nat) (hn : n ≤ 1048576) : OwnInts (w.alloc (.cells (madeCells #[.int .i64 0] n) 2)) w.heap.size (w.heap.size + 1) (.slice (some ⟨w.heap.size, 0, none⟩) n n) (List.replicate n 0) := by
  have h := OwnInts.of_rowIs (w := w.alloc (.cells (madeCells #[.int .i64 0] n) 2)) (B := w.heap.size) (D := w.heap.size + 1) (b := w.heap.size) (zs := List.replicate n 0) (by
    rw [List.length_replicate]
    exact (World.rowIs_made w _ _ _).congr (fun i hi => by simp [nth, hi])) (Nat.le_refl _) (by omega) (by simp; omega) (fun k hk => by rw [nth_eq hk, List.getElem_replicate]; unfold Fits; omega)
  rw [List.length_replicate] at h
  exact h

theorem Half4.ocell {n t g cap v : Nat} {wr : World} {vn : Value} {V : Nat → Value} {O : List Int} {zss : List (List Int)} (h : Half4 n wr t (.slice (some ⟨g, 0, none⟩) O.length cap) vn V O zss) (hv : v < O.length) : wr.cell? ⟨g, v, none⟩ = some (.int .i64 (nth O v)) ∧ wr.frozen? ⟨g, v, none⟩ = false := by
  have hc := h.ints.own.cellAt v (by omega)
  have hf := h.ints.own.frozenAt v
  refine ⟨?_, hf⟩
  rw [hc]; simp [nth, hv]
theorem Half4.rcell {n t g cap v : Nat} {wr : World} {vo : Value} {V : Nat → Value} {O : List Int} {zss : List (List Int)} (h : Half4 n wr t vo (.slice (some ⟨g, 0, none⟩) zss.length cap) V O zss) (hv : v < zss.length) : wr.cell? ⟨g, v, none⟩ = some (V v) ∧ wr.frozen? ⟨g, v, none⟩ = false := by
  have hc := h.rows.own.cellAt v (by omega)
  have hf := h.rows.own.frozenAt v
  refine ⟨?_, hf⟩
  rw [hc]; simp [hv]

theorem own_new (w : World) (x : Int) (hx : Fits x) : OwnInts (w.alloc (.cells #[.int .i64 x] 2)) w.heap.size (w.heap.size + 1) (.slice (some ⟨w.heap.size, 0, none⟩) 1 1) [x] :=
  ⟨⟨by simp, .inr ⟨w.heap.size, 1, _, rfl, Nat.le_refl _, heap_alloc_new w _, Nat.le_refl _, by unfold maxLen; omega, by simp, by simp⟩⟩, fun g hg => by simp [Value.ownBlock] at hg; omega, by simp, fun k hk => by
    have : k = 0 := by simp at hk; omega
    subst this; exact hx⟩

theorem Half4.rcell_only {n t g cap v : Nat} {wr w7 : World} {vo : Value} {V : Nat → Value} {O : List Int} {zss : List (List Int)} (h : Half4 n wr t vo (.slice (some ⟨g, 0, none⟩) zss.length cap) V O zss) (hv : v < zss.length) (hg : Only (fun b => (V v).ownBlock = some b) wr w7) :
    w7.cell? ⟨g, v, none⟩ = some (V v) ∧ w7.frozen? ⟨g, v, none⟩ = false := by
  have ho := ownsRow_only h.rows.own hg (own_types h.rows.own (h.rows.rows v hv).own)
  have hc := ho.cellAt v (by omega)
  have hf := ho.frozenAt v
  refine ⟨?_, hf⟩
  rw [hc]; simp [hv]

theorem Half4.clear {n t : Nat} {wr : World} {vo vn : Value} {V : Nat → Value} {O : List Int} {zss : List (List Int)} (h : Half4 n wr t vo vn V O zss) :
    Half4 n ((wr.setCell ⟨t, 0, none⟩ (.slice none 0 0)).setCell ⟨t, 1, none⟩ (.slice none 0 0)) t (.slice none 0 0) (.slice none 0 0) (fun _ => .slice none 0 0) [] [] ∧ Only (fun b => n ≤ b) wr ((wr.setCell ⟨t, 0, none⟩ (.slice none 0 0)).setCell ⟨t, 1, none⟩ (.slice none 0 0)) :=
  ⟨⟨h.base, (h.str.set0 _).set1 _, OwnInts.nil _ _ _, OwnRows.nil _ _ _, fun i hi => absurd hi (by simp)⟩, (Box2.two_only _ _ _ _).mono fun b hb => by rw [hb]; exact h.base⟩

end Go.Proofs.Ytaoagikipbcjpaa
