/-
  What newRecursion makes, and its rounds.
-/
import Derived.Deep.DeepCutAuto
import Derived.Laws.MakeOwn
import Derived.Test.YtphkgnpkcfbnkabDoorPk03
import Derived.Test.YtphkgnpkcfbnkabDoorLead
namespace Go.Proofs.YtphkgnpkcfbnkabDoor
section
open Go.RowKit Go.Shelf

/-- The sets behind k rounds. -/
def ownK (O : List Int) (k : Nat) : Nat → Nat → Bool := fun i v => decide (v < k) && decide (nth O v = (i : Int))
def succK (zss : List (List Int)) (k : Nat) : Nat → Nat → Bool := fun v => if v < k then ofL (row zss v) else fun _ => false
def predK (zss : List (List Int)) (k : Nat) : Nat → Nat → Bool := fun u v => decide (v < k) && ofL (row zss v) u

theorem ownK_zero {O : List Int} : ownK O 0 = fun _ _ => false := funext fun i => funext fun v => by unfold ownK; simp
theorem succK_zero {zss : List (List Int)} : succK zss 0 = fun _ _ => false := funext fun v => by unfold succK; simp
theorem predK_zero {zss : List (List Int)} : predK zss 0 = fun _ _ => false := funext fun u => funext fun v => by unfold predK; simp
theorem ownK_put {O : List Int} {k i : Nat} (h : nth O k = (i : Int)) : putE (ownK O k) i (orB (ownK O k i) (oneB k)) = ownK O (k + 1) := funext fun j => by
  by_cases e : j = i
  · subst e
    rw [putE_same]
    refine funext fun v => ?_
    unfold orB ownK oneB
    by_cases hv : v = k
    · subst hv; simp [h]
    · by_cases h1 : v < k
      · have : v < k + 1 := by omega
        simp [h1, this, hv]
      · have : ¬ v < k + 1 := by omega
        simp [h1, this, hv]
  · rw [putE_other e]
    refine funext fun v => ?_
    unfold ownK
    by_cases hv : v = k
    · subst hv
      have : ¬ ((i : Int) = (j : Int)) := by omega
      simp [h, this]
    · by_cases h1 : v < k
      · have : v < k + 1 := by omega
        simp [h1, this]
      · have : ¬ v < k + 1 := by omega
        simp [h1, this]
theorem succK_put {zss : List (List Int)} {k : Nat} : putE (succK zss k) k (ofL (row zss k)) = succK zss (k + 1) := funext fun v => by
  by_cases e : v = k
  · subst e
    rw [putE_same]; unfold succK; simp
  · rw [putE_other e]
    unfold succK
    by_cases h1 : v < k
    · have : v < k + 1 := by omega
      simp [h1, this]
    · have : ¬ v < k + 1 := by omega
      simp [h1, this]
theorem succK_at {zss : List (List Int)} {k : Nat} (v : Nat) : succK zss k k v = false := by unfold succK; simp
theorem predK_put {zss : List (List Int)} {k u : Nat} {X : Nat → Bool} (h : X = cond (ofL (row zss k) u) (orB (cond (succK zss k k u) (lessB (predK zss k u) (oneB k)) (predK zss k u)) (oneB k)) (cond (succK zss k k u) (lessB (predK zss k u) (oneB k)) (predK zss k u))) : X = predK zss (k + 1) u := by
  rw [h, succK_at]
  simp only [cond_false]
  refine funext fun v => ?_
  by_cases hv : v = k
  · subst hv
    cases hx : ofL (row zss v) u <;> simp [predK, orB, oneB, hx]
  · by_cases h1 : v < k
    · have h2 : v < k + 1 := by omega
      cases hx : ofL (row zss k) u <;> simp [predK, orB, oneB, h1, h2, hv]
    · have h2 : ¬ v < k + 1 := by omega
      cases hx : ofL (row zss k) u <;> simp [predK, orB, oneB, h1, h2, hv]

theorem EdgesAt.congr {w : World} {b off n : Nat} {E E' : Nat → Nat → Bool} (h : EdgesAt w b off n E) (he : ∀ u, u < n → E u = E' u) : EdgesAt w b off n E' := fun u hu j hj => by rw [← he u hu]; exact h u hu j hj
theorem RecAt.preds_congr {w : World} {b n nb pb kb : Nat} {Ow Lv E Pd Pd' : Nat → Nat → Bool} (h : RecAt w b n nb pb kb Ow Lv E Pd) (he : ∀ u, u < n → Pd u = Pd' u) : RecAt w b n nb pb kb Ow Lv E Pd' :=
  ⟨h.own, h.lev, h.next, h.preds, h.known, h.succ, h.back.congr he, h.pos, h.small, h.apart, h.map⟩

theorem gameE_of {O P : List Int} {zss : List (List Int)} (hp : parityB O zss P = true) : GameE zss O O.length (ownK O O.length) (succK zss O.length) (predK zss O.length) := by
  obtain ⟨hA, hl, _⟩ := parityB_iff.1 hp
  have hz : zss.length = O.length := hA.2.2.1
  refine ⟨hz, rowsP_of hA, fun i _ v => ?_, fun v hv x => ?_, fun x _ v => ?_⟩
  · unfold ownK; simp
  · unfold succK; rw [if_pos hv]; exact ofL_iff
  · unfold predK succK
    by_cases hv : v < O.length
    · simp [hv]
    · simp [hv]
theorem levE_of {O P : List Int} {zss : List (List Int)} (hp : parityB O zss P = true) : LevE O.length (nth P) O (ownK P O.length) := by
  obtain ⟨hA, hl, hq⟩ := parityB_iff.1 hp
  refine ⟨fun q _ v => by unfold ownK; simp, fun v hv => hq _ (nth_mem (by omega)), fun v hv => (hA.2.2.2 v hv).1⟩

/-- Three cells of a flat struct. -/
def Flat3 (w : World) (g : Nat) (t : TypeId) (x y z : Value) : Prop := w.heap[g]? = some (.cells #[x, y, z] t (0, 0))
section
variable {w w' : World} {g : Nat} {t : TypeId} {x y z : Value}
theorem Flat3.lt (h : Flat3 w g t x y z) : g < w.heap.size := (Array.getElem?_eq_some_iff.1 h).1
theorem Flat3.below (h : Flat3 w g t x y z) (hb : Below w.heap.size w w') : Flat3 w' g t x y z := (hb.block g h.lt).trans h
theorem Flat3.only {S : Nat → Prop} (h : Flat3 w g t x y z) (hk : Only S w w') (hs : ¬ S g) : Flat3 w' g t x y z := (hk.block g h.lt hs).trans h
theorem Flat3.c0 (h : Flat3 w g t x y z) : w.cell? ⟨g, 0, none⟩ = some x := by unfold Flat3 at h; simp [World.cell?, h]
theorem Flat3.c1 (h : Flat3 w g t x y z) : w.cell? ⟨g, 1, none⟩ = some y := by unfold Flat3 at h; simp [World.cell?, h]
theorem Flat3.c2 (h : Flat3 w g t x y z) : w.cell? ⟨g, 2, none⟩ = some z := by unfold Flat3 at h; simp [World.cell?, h]
theorem Flat3.new (w : World) (t : TypeId) (x y z : Value) : Flat3 (w.alloc (.cells #[x, y, z] t)) w.heap.size t x y z := heap_alloc_new w _
end

/-- Cells of masks, made anew. -/
abbrev madeM (n : Nat) : Obj := .cells (madeCells #[.int .u64 0, .int .u64 0, .int .u64 0, .int .u64 0] (n * 4)) 67
theorem made_edges {w : World} {g n : Nat} (h : w.heap[g]? = some (madeM n)) : EdgesAt w g 0 n (fun _ _ => false) := fun u hu j hj => by
  have hk : 0 + u * 4 + j < n * 4 := by omega
  have hz : (.int .u64 (maskW (fun _ => false) j) : Value) = .int .u64 0 := by rw [maskW_none]; rfl
  have : j = 0 ∨ j = 1 ∨ j = 2 ∨ j = 3 := by omega
  rw [hz]
  simp only [World.cell?, h, madeM, madeCells]
  rw [Array.getElem?_map, Array.getElem?_range, if_pos hk]
  rcases this with rfl | rfl | rfl | rfl <;> simp <;> (try rfl)
theorem made_free {w : World} {g n : Nat} (h : w.heap[g]? = some (madeM n)) : FreeAt w g := ⟨(Array.getElem?_eq_some_iff.1 h).1, fun k => by simp [World.frozen?, h]⟩

/-- The recursion's cells, made anew. -/
def recA (nb pb n kb : Nat) : Array Value := Array.replicate 172 (.int .u64 0) ++ #[.slice (some ⟨nb, 0, none⟩) n n, .slice (some ⟨pb, 0, none⟩) n n, .map (some kb)]
theorem recA_low {nb pb n kb k : Nat} (h : k < 172) : (recA nb pb n kb)[k]? = some (.int .u64 0) := by
  unfold recA
  rw [Array.getElem?_append_left (by simpa using h)]
  simp [h]
theorem rec_new {w : World} {b nb pb n kb : Nat} (h : w.heap[b]? = some (.cells (recA nb pb n kb) 130)) (hn : w.heap[nb]? = some (madeM n)) (hp : w.heap[pb]? = some (madeM n)) (hk : w.heap[kb]? = some (.map #[] 0)) (h0 : 0 < n) (h1 : n ≤ 256)
    (ha : b ≠ nb ∧ b ≠ pb ∧ b ≠ kb ∧ nb ≠ pb ∧ nb ≠ kb ∧ pb ≠ kb) : RecAt w b n nb pb kb (fun _ _ => false) (fun _ _ => false) (fun _ _ => false) (fun _ _ => false) := by
  have hz : ∀ j, (.int .u64 (maskW (fun _ => false) j) : Value) = .int .u64 0 := fun j => by rw [maskW_none]; rfl
  have cell : ∀ k, w.cell? ⟨b, k, none⟩ = (recA nb pb n kb)[k]? := fun k => by simp [World.cell?, h]
  refine ⟨fun i hi j hj => ?_, fun u hu j hj => ?_, ?_, ?_, ?_, made_edges hn, made_edges hp, h0, h1, ha, (Array.getElem?_eq_some_iff.1 hk).1⟩
  · rw [cell, recA_low (by omega), hz]
  · rw [cell, recA_low (by omega), hz]
  · rw [cell]; simp [recA]
  · rw [cell]; simp [recA]
  · rw [cell]; simp [recA]

/-- The same, as the build makes them. -/
noncomputable abbrev recB (nb pb n kb : Nat) : Array Value := ((Tryd.zeroCells130.setIfInBounds 172 (.slice (some ⟨nb, 0, none⟩) n n)).setIfInBounds 173 (.slice (some ⟨pb, 0, none⟩) n n)).setIfInBounds 174 (.map (some kb))
theorem recB_eq (nb pb n kb : Nat) : recB nb pb n kb = recA nb pb n kb := by kernel_rfl
theorem run_make_map (w : World) : (Instr.makeMap 127 none).run Tryd.prog w = .ok (.map (some w.heap.size)) (w.alloc (.map #[] 0)) := by kernel_rfl
theorem run_make_masks (w : World) (n : Nat) (hn : n ≤ 256) : (Instr.makeSlice 126 (.int .i64 (n : Int)) (.int .i64 (n : Int))).run Tryd.prog w = .ok (.slice (some ⟨w.heap.size, 0, none⟩) n n) (w.alloc (madeM n)) := by
  have ht : Tryd.prog.underlying 126 = some (.slice 67) := by kernel_rfl
  have hinfo : (Tryd.prog.info? 67).map (fun i => (i.zero, i.size, i.bytes)) = some (some (.agg #[.int .u64 0, .int .u64 0, .int .u64 0, .int .u64 0]), 4, 32) := by kernel_rfl
  obtain ⟨i, hi, hzz⟩ := Option.map_eq_some_iff.1 hinfo
  simp only [Prod.mk.injEq] at hzz
  obtain ⟨hz, hs, hb⟩ := hzz
  have h := run_make (P := Tryd.prog) w _ _ i _ ht hi hz .i64 .i64 (n : Int) (n : Int) (by omega) (by omega) (by rw [hb]; omega) (by omega)
  rw [hs] at h
  simpa [Value.cells] using h

theorem below_drewD {w w' : World} (h : Below w.heap.size w w') : Below w.drew.heap.size w.drew w'.drew := ⟨h.os, h.tape, h.output, h.size, h.block⟩

/-- A set of the recursion's own put anew. -/
theorem RecAt.putOwn {w : World} {b n nb pb kb : Nat} {Ow Lv E Pd : Nat → Nat → Bool} (h : RecAt w b n nb pb kb Ow Lv E Pd) {i : Nat} (hi : i < 2) (K : Nat → Bool) :
    RecAt ((((w.setCell ⟨b, i * 4, none⟩ (.int .u64 (maskW K 0))).setCell ⟨b, i * 4 + 1, none⟩ (.int .u64 (maskW K 1))).setCell ⟨b, i * 4 + 2, none⟩ (.int .u64 (maskW K 2))).setCell ⟨b, i * 4 + 3, none⟩ (.int .u64 (maskW K 3))) b n nb pb kb (putE Ow i K) Lv E Pd := by
  have hl := h.lt
  have ha := h.apart
  have h0 : EdgesAt w b 0 2 Ow := fun u hu j hj => by rw [Nat.zero_add]; exact h.own u hu j hj
  have h1 := h0.put hi K
  simp only [Nat.zero_add] at h1
  have ho := only_put4 (S := fun k => k = b) (Only.refl _ w) (g := b) rfl (.int .u64 (maskW K 0)) (.int .u64 (maskW K 1)) (.int .u64 (maskW K 2)) (.int .u64 (maskW K 3)) (i * 4)
  have far : ∀ k, 8 ≤ k → World.cell? ((((w.setCell ⟨b, i * 4, none⟩ (.int .u64 (maskW K 0))).setCell ⟨b, i * 4 + 1, none⟩ (.int .u64 (maskW K 1))).setCell ⟨b, i * 4 + 2, none⟩ (.int .u64 (maskW K 2))).setCell ⟨b, i * 4 + 3, none⟩ (.int .u64 (maskW K 3))) ⟨b, k, none⟩ = World.cell? w ⟨b, k, none⟩ := fun k hk => by
    have ne : ∀ {j : Nat}, j < 8 → (⟨b, k, none⟩ : Addr) ≠ ⟨b, j, none⟩ := fun hj e => by injection e with _ e2; omega
    rw [World.cell?_setCell_other _ _ _ _ (fun e => ne (by omega) e.symm), World.cell?_setCell_other _ _ _ _ (fun e => ne (by omega) e.symm), World.cell?_setCell_other _ _ _ _ (fun e => ne (by omega) e.symm), World.cell?_setCell_other _ _ _ _ (fun e => ne (by omega) e.symm)]
  refine ⟨fun u hu j hj => by have := h1 u hu j hj; rw [Nat.zero_add] at this; exact this, fun u hu j hj => (far _ (by omega)).trans (h.lev u hu j hj), (far _ (by omega)).trans h.next, (far _ (by omega)).trans h.preds, (far _ (by omega)).trans h.known, h.succ.only ho (by omega), h.back.only ho (by omega), h.pos, h.small, h.apart, Nat.lt_of_lt_of_le h.map ho.size⟩
theorem RecAt.putLev {w : World} {b n nb pb kb : Nat} {Ow Lv E Pd : Nat → Nat → Bool} (h : RecAt w b n nb pb kb Ow Lv E Pd) {q : Nat} (hq : q < 41) (K : Nat → Bool) :
    RecAt ((((w.setCell ⟨b, 8 + q * 4, none⟩ (.int .u64 (maskW K 0))).setCell ⟨b, 8 + q * 4 + 1, none⟩ (.int .u64 (maskW K 1))).setCell ⟨b, 8 + q * 4 + 2, none⟩ (.int .u64 (maskW K 2))).setCell ⟨b, 8 + q * 4 + 3, none⟩ (.int .u64 (maskW K 3))) b n nb pb kb Ow (putE Lv q K) E Pd := by
  have hl := h.lt
  have ha := h.apart
  have h1 := h.lev.put hq K
  have ho := only_put4 (S := fun k => k = b) (Only.refl _ w) (g := b) rfl (.int .u64 (maskW K 0)) (.int .u64 (maskW K 1)) (.int .u64 (maskW K 2)) (.int .u64 (maskW K 3)) (8 + q * 4)
  have far : ∀ k, k < 8 ∨ 172 ≤ k → World.cell? ((((w.setCell ⟨b, 8 + q * 4, none⟩ (.int .u64 (maskW K 0))).setCell ⟨b, 8 + q * 4 + 1, none⟩ (.int .u64 (maskW K 1))).setCell ⟨b, 8 + q * 4 + 2, none⟩ (.int .u64 (maskW K 2))).setCell ⟨b, 8 + q * 4 + 3, none⟩ (.int .u64 (maskW K 3))) ⟨b, k, none⟩ = World.cell? w ⟨b, k, none⟩ := fun k hk => by
    have ne : ∀ {j : Nat}, 8 ≤ j → j < 172 → (⟨b, k, none⟩ : Addr) ≠ ⟨b, j, none⟩ := fun h1 h2 e => by injection e with _ e2; omega
    rw [World.cell?_setCell_other _ _ _ _ (fun e => ne (by omega) (by omega) e.symm), World.cell?_setCell_other _ _ _ _ (fun e => ne (by omega) (by omega) e.symm), World.cell?_setCell_other _ _ _ _ (fun e => ne (by omega) (by omega) e.symm), World.cell?_setCell_other _ _ _ _ (fun e => ne (by omega) (by omega) e.symm)]
  refine ⟨fun u hu j hj => (far _ (by omega)).trans (h.own u hu j hj), h1, (far _ (by omega)).trans h.next, (far _ (by omega)).trans h.preds, (far _ (by omega)).trans h.known, h.succ.only ho (by omega), h.back.only ho (by omega), h.pos, h.small, h.apart, Nat.lt_of_lt_of_le h.map ho.size⟩
theorem MemoAt.new {w : World} {kb : Nat} (Q : (Nat → Bool) → Value → Prop) (h : w.heap[kb]? = some (.map #[] 0)) : MemoAt w kb Q := ⟨#[], 0, h, fun e he => by simp at he⟩
end

section
variable {P : Program} {ops : Array Oper} {Q : Exit → Act → World → Prop} {md : Region.Mode} {S : World → Prop} {m : Nat}
/-- Three may come up. -/
theorem wpAnyM_three {i j l : Nat} {o o' o'' : Oper} {fuel : Nat} {listed : Array Bool} {a : Act} {w : World} (hr : Region.ready md ops listed = [i, j, l]) (ho : ops[i]? = some o) (ho' : ops[j]? = some o') (ho'' : ops[l]? = some o'')
    (h : ∀ K' : Act → World → Prop, Shut (∀ a w, (i < m → S w) → ((i < m → S w) → wpAnyM P md ops Q S m fuel (listed.setIfInBounds i true) a w) → K' a w) → if Region.wanted o (yielded ops a.tmps) = true then Oper.wp P o a w K' Q else K' (a.put o.dst undef) w)
    (h' : ∀ K' : Act → World → Prop, Shut (∀ a w, (j < m → S w) → ((j < m → S w) → wpAnyM P md ops Q S m fuel (listed.setIfInBounds j true) a w) → K' a w) → if Region.wanted o' (yielded ops a.tmps) = true then Oper.wp P o' a w K' Q else K' (a.put o'.dst undef) w)
    (h'' : ∀ K' : Act → World → Prop, Shut (∀ a w, (l < m → S w) → ((l < m → S w) → wpAnyM P md ops Q S m fuel (listed.setIfInBounds l true) a w) → K' a w) → if Region.wanted o'' (yielded ops a.tmps) = true then Oper.wp P o'' a w K' Q else K' (a.put o''.dst undef) w) :
    wpAnyM P md ops Q S m (fuel + 1) listed a w :=
  ⟨fun h0 => absurd h0 (by rw [hr]; exact List.cons_ne_nil _ _), fun k hk => by
    rw [hr, List.mem_cons, List.mem_cons, List.mem_singleton] at hk
    rcases hk with hk | hk | hk
    · rw [hk]; exact wpOp_step ho (fun K' hK => h K' (fun a w hS hW => hK a w ⟨hS, hW hS⟩))
    · rw [hk]; exact wpOp_step ho' (fun K' hK => h' K' (fun a w hS hW => hK a w ⟨hS, hW hS⟩))
    · rw [hk]; exact wpOp_step ho'' (fun K' hK => h'' K' (fun a w hS hW => hK a w ⟨hS, hW hS⟩))⟩
end
end Go.Proofs.YtphkgnpkcfbnkabDoor
