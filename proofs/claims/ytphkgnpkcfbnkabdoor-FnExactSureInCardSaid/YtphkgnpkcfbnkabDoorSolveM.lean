/-
  Contract: solve.
-/
import Derived.Deep.LoopGhost
import Derived.Scope
import Derived.Deep.DeepCutAuto
import Derived.Laws.Tables
import Derived.Laws.Rows
import Derived.Test.YtphkgnpkcfbnkabDoorPk17
namespace Go.Proofs.YtphkgnpkcfbnkabDoor
section
open Go.RowKit Go.Shelf
attribute [local go_sem] Oper.semAt_some

/-- The sets of the priorities are those of the game. -/
structure LevE (n : Nat) (p : Nat → Int) (O : List Int) (Lv : Nat → Nat → Bool) : Prop where
  is : ∀ q, q < 41 → ∀ v, Lv q v = true ↔ v < n ∧ p v = (q : Int)
  pos : ∀ v, v < n → 0 ≤ p v ∧ p v ≤ 40
  own : ∀ v, v < n → nth O v = 0 ∨ nth O v = 1

section
variable {w w' : World} {g : Nat} {I J : Nat → Bool}
theorem OutAt.lt (h : OutAt w g I J) : g < w.heap.size := (Array.getElem?_eq_some_iff.1 h).1
theorem OutAt.only {S : Nat → Prop} (h : OutAt w g I J) (hk : Only S w w') (hs : ¬ S g) : OutAt w' g I J := (hk.block g h.lt hs).trans h
theorem OutAt.below (h : OutAt w g I J) (hb : Below w.heap.size w w') : OutAt w' g I J := (hb.block g h.lt).trans h
theorem OutAt.c0 (h : OutAt w g I J) : w.cell? ⟨g, 0, none⟩ = some (.int .u64 (maskW I 0)) := by unfold OutAt at h; simp [World.cell?, h]
theorem OutAt.c1 (h : OutAt w g I J) : w.cell? ⟨g, 1, none⟩ = some (.int .u64 (maskW I 1)) := by unfold OutAt at h; simp [World.cell?, h]
theorem OutAt.c2 (h : OutAt w g I J) : w.cell? ⟨g, 2, none⟩ = some (.int .u64 (maskW I 2)) := by unfold OutAt at h; simp [World.cell?, h]
theorem OutAt.c3 (h : OutAt w g I J) : w.cell? ⟨g, 3, none⟩ = some (.int .u64 (maskW I 3)) := by unfold OutAt at h; simp [World.cell?, h]
theorem OutAt.c4 (h : OutAt w g I J) : w.cell? ⟨g, 4, none⟩ = some (.int .u64 (maskW J 0)) := by unfold OutAt at h; simp [World.cell?, h]
theorem OutAt.c5 (h : OutAt w g I J) : w.cell? ⟨g, 5, none⟩ = some (.int .u64 (maskW J 1)) := by unfold OutAt at h; simp [World.cell?, h]
theorem OutAt.c6 (h : OutAt w g I J) : w.cell? ⟨g, 6, none⟩ = some (.int .u64 (maskW J 2)) := by unfold OutAt at h; simp [World.cell?, h]
theorem OutAt.c7 (h : OutAt w g I J) : w.cell? ⟨g, 7, none⟩ = some (.int .u64 (maskW J 3)) := by unfold OutAt at h; simp [World.cell?, h]
theorem OutAt.frozen (h : OutAt w g I J) (k : Nat) : w.frozen? ⟨g, k, none⟩ = false := by unfold OutAt at h; simp [World.frozen?, h]
end

theorem OutAt.new (w : World) (I J : Nat → Bool) : OutAt (w.alloc (.cells #[.int .u64 (maskW I 0), .int .u64 (maskW I 1), .int .u64 (maskW I 2), .int .u64 (maskW I 3), .int .u64 (maskW J 0), .int .u64 (maskW J 1), .int .u64 (maskW J 2), .int .u64 (maskW J 3)] 69)) w.heap.size I J := heap_alloc_new w _
theorem out_new_at {w : World} (I J : Nat → Bool) (g : Nat) (hg : w.heap.size = g) : OutAt (w.alloc (.cells #[.int .u64 (maskW I 0), .int .u64 (maskW I 1), .int .u64 (maskW I 2), .int .u64 (maskW I 3), .int .u64 (maskW J 0), .int .u64 (maskW J 1), .int .u64 (maskW J 2), .int .u64 (maskW J 3)] 69)) g I J := by rw [← hg]; exact OutAt.new w I J
theorem out_zero : (.cells #[.int .u64 0, .int .u64 0, .int .u64 0, .int .u64 0, .int .u64 0, .int .u64 0, .int .u64 0, .int .u64 0] 69 : Obj) = .cells #[.int .u64 (maskW (fun _ => false) 0), .int .u64 (maskW (fun _ => false) 1), .int .u64 (maskW (fun _ => false) 2), .int .u64 (maskW (fun _ => false) 3), .int .u64 (maskW (fun _ => false) 0), .int .u64 (maskW (fun _ => false) 1), .int .u64 (maskW (fun _ => false) 2), .int .u64 (maskW (fun _ => false) 3)] 69 := by
  rw [maskW_none, maskW_none, maskW_none, maskW_none]; rfl

abbrev wordsA (I J : Nat → Bool) : Array Value := #[.int .u64 (maskW I 0), .int .u64 (maskW I 1), .int .u64 (maskW I 2), .int .u64 (maskW I 3), .int .u64 (maskW J 0), .int .u64 (maskW J 1), .int .u64 (maskW J 2), .int .u64 (maskW J 3)]
theorem OutAt.row8 {I J : Nat → Bool} {w : World} {g : Nat} (I' J' : Nat → Bool) (h : OutAt w g I J) : OutAt (w.setRow g (wordsA I' J')) g I' J' := setRow_heap _ _ _ _ _ _ h
theorem only_row {S : Nat → Prop} {a w : World} {g : Nat} (h : Only S a w) (hg : S g) (cs : Array Value) : Only S a (w.setRow g cs) :=
  h.trans ⟨rfl, rfl, rfl, by simp [World.setRow], fun k _ hk => by
    have hne : g ≠ k := fun e => hk (by rw [← e]; exact hg)
    simp [World.setRow, Array.getElem?_modify, hne]⟩

theorem cells_set {w : World} {g : Nat} {c : Array Value} {t : TypeId} {fr : Nat × Nat} (h : w.heap[g]? = some (.cells c t fr)) (i : Nat) (v : Value) : (w.setCell ⟨g, i, none⟩ v).heap[g]? = some (.cells (c.setIfInBounds i v) t fr) := by
  obtain ⟨hl, he⟩ := Array.getElem?_eq_some_iff.1 h
  simp [World.setCell, hl, Array.getElem_modify, he]
theorem OutAt.put0 {I J : Nat → Bool} {w : World} {g : Nat} (h : OutAt w g I J) (K : Nat → Bool) : OutAt ((((w.setCell ⟨g, 0, none⟩ (.int .u64 (maskW K 0))).setCell ⟨g, 1, none⟩ (.int .u64 (maskW K 1))).setCell ⟨g, 2, none⟩ (.int .u64 (maskW K 2))).setCell ⟨g, 3, none⟩ (.int .u64 (maskW K 3))) g K J := by
  unfold OutAt at h ⊢
  have h4 := cells_set (cells_set (cells_set (cells_set h 0 (.int .u64 (maskW K 0))) 1 (.int .u64 (maskW K 1))) 2 (.int .u64 (maskW K 2))) 3 (.int .u64 (maskW K 3))
  simpa using h4
theorem OutAt.put1 {I J : Nat → Bool} {w : World} {g : Nat} (h : OutAt w g I J) (K : Nat → Bool) : OutAt ((((w.setCell ⟨g, 4, none⟩ (.int .u64 (maskW K 0))).setCell ⟨g, 5, none⟩ (.int .u64 (maskW K 1))).setCell ⟨g, 6, none⟩ (.int .u64 (maskW K 2))).setCell ⟨g, 7, none⟩ (.int .u64 (maskW K 3))) g I K := by
  unfold OutAt at h ⊢
  have h4 := cells_set (cells_set (cells_set (cells_set h 4 (.int .u64 (maskW K 0))) 5 (.int .u64 (maskW K 1))) 6 (.int .u64 (maskW K 2))) 7 (.int .u64 (maskW K 3))
  simpa using h4

/-- A function whose result is an outcome's variable leaves, whatever loops over functions have ended in it. -/
theorem leaves_outs {fn : Func} {p : Tmp} {tmps : Array Value} {g B : Nat} {I J : Nat → Bool} {R : Ending → World → Prop} (hr : fn.results = #[.cell p 69]) (hp : tmps.getD p undef = .pointer (some ⟨g, 0, none⟩)) : ∀ {ds : List Deferred} {W : World},
    OutAt W g I J → MarksAt W B ds → (∀ W', Only (fun k => B ≤ k ∧ k ≠ g) W W' → R (.returned (outcV I J)) W') → bodyPostM Fence.wide 4 Tryd.prog fn R .ret { tmps := tmps, defers := ds } W
  | [], W, hM, _, hR => by
    exact ⟨_, results_cell_row hr tmps _ g _ _ _ (.array 2 67) hp hM (by kernel_rfl) rfl (by kernel_rfl), hR W (Only.refl _ _)⟩
  | d :: ds, W, hM, hK, hR => by
    obtain ⟨⟨D, hd, hB, hD, hne⟩, ht⟩ := hK
    subst hd
    have hgD : D ≠ g := fun e => by
      unfold OutAt at hM
      rw [← e, hD] at hM
      cases hM
    have ho : Only (fun k => B ≤ k ∧ k ≠ g) W (W.putObj D (.deferred none)) := (Only.of_grown (grownBy_putObj' W D _)).mono fun k hk => by cases hk; exact ⟨hB, hgD⟩
    have hod : Only (fun k => k = D) W (W.putObj D (.deferred none)) := (Only.of_grown (grownBy_putObj' W D _)).mono fun k hk => by cases hk; rfl
    have ht2 : ∀ {es : List Deferred}, MarksAt W B es → (∀ d' ∈ es, d' ≠ { target := .collected D, args := #[] }) → MarksAt (W.putObj D (.deferred none)) B es := fun {es} => by
      induction es with
      | nil => intro _ _; trivial
      | cons x es ih =>
        intro h hn
        obtain ⟨⟨E, hx, hBE, hE, hnx⟩, h2⟩ := h
        have hED : E ≠ D := fun e => hn x (by simp) (by rw [hx, e])
        exact ⟨⟨E, hx, hBE, (hod.block E (Array.getElem?_eq_some_iff.1 hE).1 hED).trans hE, hnx⟩, ih h2 fun d' hd' => hn d' (by simp [hd'])⟩
    have rest := leaves_outs (R := R) (g := g) (B := B) hr hp (ds := ds) (W := W.putObj D (.deferred none)) (hM.only ho fun h => h.2 rfl) (ht2 ht hne) fun W' hW => hR W' (ho.trans hW)
    exact ⟨by simp, .inl ⟨_, _, rfl, run_takeDeferred hD, rest⟩⟩

set_option linter.unusedSimpArgs false in
set_option maxRecDepth 100000 in
set_option maxHeartbeats 16000000 in
theorem solve_step {b n nb pb kb : Nat} {Ow Lv E Pd : Nat → Nat → Bool} {zss : List (List Int)} {O : List Int} {p : Nat → Int} {I : Nat → Bool} (hG : GameE zss O n Ow E Pd) (hL : LevE n p O Lv) (hI : ∀ v, I v = true → v < n) (ht : TotalP zss I)
    (ih : ∀ J, (markedK J 256).length < (markedK I 256).length → (∀ v, J v = true → v < n) → TotalP zss J → SolveAt zss O p b n nb pb kb Ow Lv E Pd J) : SolveAt zss O p b n nb pb kb Ow Lv E Pd I := by
  intro w hT hR hM
  have hkt := memo_ne_tab hM hT
  have HG := Lib.hid hG
  have HL := Lib.hid hL
  have HI := Lib.hid hI
  have HTI := Lib.hid ht
  have HIH := Lib.hid ih
  have HM := Lib.hid hM
  have HKW : Hid (kb < w.heap.size) := hM.lt
  have hn := hR.small
  have HI256 : Hid (∀ v, I v = true → v < 256) := fun v hv => by have := hI v hv; omega
  have HEnv : Hid (∀ W', Only (fun k => k = kb ∨ w.heap.size ≤ k) w W' → TabW W' ∧ RecAt W' b n nb pb kb Ow Lv E Pd) := fun W' ho =>
    ⟨hT.only ho (by have := hT.lt; omega), hR.only ho (by have := hR.lt; have := hR.apart; omega) (by have := hR.lt; have := hR.apart; omega) (by have := hR.lt; have := hR.apart; omega)⟩
  clear hT hR hG hL hI ht ih hM hkt
  refine (callsIn_wide (n := 4)).1 ?_
  refine callsIn_of_wp_marks Tryd.func103 rfl trivial ?_ rfl
  simp only [Tryd.ntmps103, List.size_toArray, List.length_cons, List.length_nil, Nat.reduceAdd, Nat.reduceSub, Array.replicate_succ, Array.replicate_zero, List.push_toArray, List.append_toArray, List.nil_append, List.cons_append]
  refine wpIn_wide.2 ?_
  go_wp2_with fail
  obtain ⟨w1, hw1⟩ : ∃ y, y = (((w.alloc (.cells #[.pointer (some ⟨b, 0, none⟩)] 79)).alloc (.cells #[.int .u64 (maskW I 0), .int .u64 (maskW I 1), .int .u64 (maskW I 2), .int .u64 (maskW I 3)] 67)).alloc (.cells #[.int .u64 0, .int .u64 0, .int .u64 0, .int .u64 0, .int .u64 0, .int .u64 0, .int .u64 0, .int .u64 0] 69)) := ⟨_, rfl⟩
  rw [← hw1]
  have HB : Hid (Below w.heap.size w w1) := by
    rw [hw1]
    exact (((Below.refl _ _).alloc (Nat.le_refl _) _).alloc (by simp) _).alloc (by simp; omega) _
  have bP : Hid (Boxed w1 (w.heap.size) 79 (.pointer (some ⟨b, 0, none⟩))) := by
    rw [hw1]; exact bx_below (bx_below (Boxed.new w 79 _) (below1 _ _)) (below1 _ _)
  have bI : Hid (MaskAt w1 (w.heap.size + 1) I) := by
    rw [hw1]; exact (mask_new_at I _ (by simp)).below (below1 _ _)
  have bR : Hid (OutAt w1 (w.heap.size + 1 + 1) (fun _ => false) (fun _ => false)) := by
    rw [hw1, out_zero]; exact out_new_at _ _ _ (by simp)
  have HS1 : Hid (w1.heap.size = w.heap.size + 3) := by rw [hw1]; simp [Hid]
  clear hw1
  have HM1 := Lib.hid (HM.out.below HB.out)
  obtain ⟨X, Y, r, HLK, HXY⟩ : ∃ (X Y : Nat → Bool) (r : Bool), Hid (∀ w', Below w1.heap.size w1 w' → (Instr.lookup 127 (.map (some kb)) (maskV I) true).run Tryd.prog w' = .ok (.tuple #[outcV X Y, .bool r]) w') ∧ Hid (r = true → X = outB zss O p I 0 ∧ Y = outB zss O p I 1) := by
    obtain ⟨u, r, h1, h2⟩ := run_lookup HM1.out HI256.out
    have hb : ∀ w', Below w1.heap.size w1 w' → w'.heap[kb]? = w1.heap[kb]? := fun w' h => h.block kb (by have := HKW.out; have := HS1.out; omega)
    rcases h2 with ⟨rfl, rfl⟩ | ⟨rfl, hq⟩
    · refine ⟨fun _ => false, fun _ => false, false, fun w' h => ?_, fun h => absurd h (by decide)⟩
      have h3 := h1 w' (hb w' h)
      unfold outcV
      rw [maskW_none, maskW_none, maskW_none, maskW_none]
      exact h3
    · unfold OutQ at hq
      subst hq
      exact ⟨_, _, true, fun w' h => h1 w' (hb w' h), fun _ => ⟨rfl, rfl⟩⟩
  have HSw : Hid (∀ W', Below w1.heap.size w1 W' → W'.cell? ⟨w.heap.size, 0, none⟩ = some (.pointer (some ⟨b, 0, none⟩)) ∧ W'.cell? ⟨b, 174, none⟩ = some (.map (some kb)) ∧ (Instr.lookup 127 (.map (some kb)) (.agg #[.int .u64 (maskW I 0), .int .u64 (maskW I 1), .int .u64 (maskW I 2), .int .u64 (maskW I 3)]) true).run Tryd.prog W' = .ok (.tuple #[outcV X Y, .bool r]) W' ∧ W'.cell? ⟨w.heap.size + 1, 0, none⟩ = some (.int .u64 (maskW I 0)) ∧ W'.cell? ⟨w.heap.size + 1, 1, none⟩ = some (.int .u64 (maskW I 1)) ∧ W'.cell? ⟨w.heap.size + 1, 2, none⟩ = some (.int .u64 (maskW I 2)) ∧ W'.cell? ⟨w.heap.size + 1, 3, none⟩ = some (.int .u64 (maskW I 3))) := fun W' hb => by
    have m1 := bI.out.below hb
    have m4 := bx_below bP.out hb
    have m5 := (HEnv.out _ ((Only.of_below HB.out |>.mono fun k hk => by exact hk).trans (Only.of_below hb))).2.known
    exact ⟨m4.cell, m5, HLK.out _ hb, m1.c0, m1.c1, m1.c2, m1.c3⟩
  have Kd : Hid (Below w1.heap.size w1 w1.drew) := (Below.refl _ _).drew
  refine wp_scope_straight ?_
  go_wp2_with fail
  refine wp_cut (fun a' wx => ∃ (g5 : Nat) (u16 u17 u18 u19 u20 u21 u22 u23 u24 : Value), (w1.heap.size ≤ g5 ∧ Hid (OutAt wx g5 X Y) ∧ Hid (Below w1.heap.size w1 wx)) ∧ a' = { tmps := #[.pointer (some ⟨b, 0, none⟩), maskV I, .pointer (some ⟨w.heap.size, 0, none⟩), .pointer (some ⟨w.heap.size + 1, 0, none⟩), .pointer (some ⟨w.heap.size + 1 + 1, 0, none⟩), .pointer (some ⟨g5, 0, none⟩), .bool r, undef, undef, undef, undef, undef, undef, undef, undef, undef, u16, u17, u18, u19, u20, u21, u22, u23, u24, undef, undef, undef, undef, undef, undef, undef, undef, undef, undef, undef, undef, undef, undef, undef, undef, undef, undef, undef, undef, undef, undef, undef, undef, undef, undef, undef, undef, undef, undef, undef, undef, undef, undef, undef, undef, undef, undef, undef, undef, undef, undef, undef, undef, undef, undef, undef, undef, undef, undef, undef], defers := [] }) ?reg1 ?rest1
  case reg1 =>
    refine wp_region_M (S := (fun W' => W'.cell? ⟨w.heap.size, 0, none⟩ = some (.pointer (some ⟨b, 0, none⟩)) ∧ W'.cell? ⟨b, 174, none⟩ = some (.map (some kb)) ∧ (Instr.lookup 127 (.map (some kb)) (.agg #[.int .u64 (maskW I 0), .int .u64 (maskW I 1), .int .u64 (maskW I 2), .int .u64 (maskW I 3)]) true).run Tryd.prog W' = .ok (.tuple #[outcV X Y, .bool r]) W' ∧ W'.cell? ⟨w.heap.size + 1, 0, none⟩ = some (.int .u64 (maskW I 0)) ∧ W'.cell? ⟨w.heap.size + 1, 1, none⟩ = some (.int .u64 (maskW I 1)) ∧ W'.cell? ⟨w.heap.size + 1, 2, none⟩ = some (.int .u64 (maskW I 2)) ∧ W'.cell? ⟨w.heap.size + 1, 3, none⟩ = some (.int .u64 (maskW I 3)))) (m := 12) (by kernel_rfl) (HSw.out _ Kd.out) (fun hHeld => ?_)
    refine wpAnyM_take (i := 0) (v := ?vm1) rfl (by kernel_rfl) (by decide) (by kernel_rfl) (by kernel_rfl) (by kernel_rfl) (fun _ _ _ h => h) (Or.inl ⟨by rfl, ?hm1⟩) (by assumption) ?_
    case hm1 => (intro w hSw; (try dsimp only at hSw); go_simp; first | done | with_reducible rfl)
    try simp only [Act.put, List.setIfInBounds_toArray, List.set_cons_zero, List.set_cons_succ]
    refine wpAnyM_take (i := 1) (v := ?vm2) rfl (by kernel_rfl) (by decide) (by kernel_rfl) (by kernel_rfl) (by kernel_rfl) (fun _ _ _ h => h) (Or.inl ⟨by rfl, ?hm2⟩) (by assumption) ?_
    case hm2 => (intro w hSw; (try dsimp only at hSw); go_simp; first | done | with_reducible rfl)
    try simp only [Act.put, List.setIfInBounds_toArray, List.set_cons_zero, List.set_cons_succ]
    refine wpAnyM_take (i := 2) (v := ?vm3) rfl (by kernel_rfl) (by decide) (by kernel_rfl) (by kernel_rfl) (by kernel_rfl) (fun _ _ _ h => h) (Or.inl ⟨by rfl, ?hm3⟩) (by assumption) ?_
    case hm3 => (intro w hSw; (try dsimp only at hSw); go_simp; first | done | with_reducible rfl)
    try simp only [Act.put, List.setIfInBounds_toArray, List.set_cons_zero, List.set_cons_succ]
    refine wpAnyM_take (i := 3) (v := ?vm4) rfl (by kernel_rfl) (by decide) (by kernel_rfl) (by kernel_rfl) (by kernel_rfl) (fun _ _ _ h => h) (Or.inl ⟨by rfl, ?hm4⟩) (by assumption) ?_
    case hm4 => (intro w hSw; (try dsimp only at hSw); go_simp; first | done | with_reducible rfl)
    try simp only [Act.put, List.setIfInBounds_toArray, List.set_cons_zero, List.set_cons_succ]
    refine wpAnyM_take (i := 4) (v := ?vm5) rfl (by kernel_rfl) (by decide) (by kernel_rfl) (by kernel_rfl) (by kernel_rfl) (fun _ _ _ h => h) (Or.inl ⟨by rfl, ?hm5⟩) (by assumption) ?_
    case hm5 => (intro w hSw; (try dsimp only at hSw); go_simp; first | done | with_reducible rfl)
    try simp only [Act.put, List.setIfInBounds_toArray, List.set_cons_zero, List.set_cons_succ]
    refine wpAnyM_take (i := 5) (v := ?vm6) rfl (by kernel_rfl) (by decide) (by kernel_rfl) (by kernel_rfl) (by kernel_rfl) (fun _ _ _ h => h) (Or.inl ⟨by rfl, ?hm6⟩) (by assumption) ?_
    case hm6 => (intro w hSw; (try dsimp only at hSw); go_simp; first | done | with_reducible rfl)
    try simp only [Act.put, List.setIfInBounds_toArray, List.set_cons_zero, List.set_cons_succ]
    refine wpAnyM_take (i := 6) (v := ?vm7) rfl (by kernel_rfl) (by decide) (by kernel_rfl) (by kernel_rfl) (by kernel_rfl) (fun _ _ _ h => h) (Or.inl ⟨by rfl, ?hm7⟩) (by assumption) ?_
    case hm7 => (intro w hSw; (try dsimp only at hSw); go_simp; first | done | with_reducible rfl)
    try simp only [Act.put, List.setIfInBounds_toArray, List.set_cons_zero, List.set_cons_succ]
    refine wpAnyM_take (i := 7) (v := ?vm8) rfl (by kernel_rfl) (by decide) (by kernel_rfl) (by kernel_rfl) (by kernel_rfl) (fun _ _ _ h => h) (Or.inl ⟨by rfl, ?hm8⟩) (by assumption) ?_
    case hm8 => (intro w hSw; (try dsimp only at hSw); go_simp; first | done | with_reducible rfl)
    try simp only [Act.put, List.setIfInBounds_toArray, List.set_cons_zero, List.set_cons_succ]
    refine wpAnyM_take (i := 8) (v := ?vm9) rfl (by kernel_rfl) (by decide) (by kernel_rfl) (by kernel_rfl) (by kernel_rfl) (fun _ _ _ h => h) (Or.inl ⟨by rfl, ?hm9⟩) (by assumption) ?_
    case hm9 => (intro w hSw; (try dsimp only at hSw); go_simp; first | done | with_reducible rfl)
    try simp only [Act.put, List.setIfInBounds_toArray, List.set_cons_zero, List.set_cons_succ]
    refine wpAnyM_one (i := 9) (by kernel_rfl) rfl (fun K hK => ?_)
    go_simp
    refine hK.out _ _ (fun _ => HSw.out _ (below1 w1 _).drew) (fun hHeld => ?_)
    have hHeld := hHeld (by decide)
    clear hK K
    try simp only [Act.put, List.setIfInBounds_toArray, List.set_cons_zero, List.set_cons_succ]
    refine wpAnyM_one (i := 10) (by kernel_rfl) rfl (fun K hK => ?_)
    go_simp
    refine hK.out _ _ (fun _ => HSw.out _ (below1 w1 _).drew) (fun hHeld => ?_)
    have hHeld := hHeld (by decide)
    clear hK K
    try simp only [Act.put, List.setIfInBounds_toArray, List.set_cons_zero, List.set_cons_succ]
    refine wpAnyM_one (i := 11) (by kernel_rfl) rfl (fun K hK => ?_)
    go_simp
    refine hK.out _ _ (fun _ => HSw.out _ (below1 w1 _).drew) (fun hHeld => ?_)
    have hHeld := hHeld (by decide)
    clear hK K
    try simp only [Act.put, List.setIfInBounds_toArray, List.set_cons_zero, List.set_cons_succ]
    refine wpAnyM_done (by kernel_rfl) ?_ _
    exact ⟨_, _, _, _, _, _, _, _, _, _, ⟨Nat.le_refl _, out_new_at (w := w1) _ _ _ rfl, (below1 w1 _).drew⟩, rfl⟩
  case rest1 =>
  rintro a' wx ⟨g5, u16, u17, u18, u19, u20, u21, u22, u23, u24, ⟨hg5, H5, Bx⟩, rfl⟩
  clear HSw Kd HLK
  have OX : Hid (Only (fun k => k = kb ∨ w.heap.size ≤ k) w wx) := (Only.of_below HB.out |>.mono fun k hk => by exact hk).trans (Only.of_below Bx.out)
  have bPx := Lib.hid (bx_below bP.out Bx.out)
  have bIx := Lib.hid (bI.out.below Bx.out)
  have bRx := Lib.hid (bR.out.below Bx.out)
  have HMx := Lib.hid (HM1.out.below Bx.out)
  have HSx : Hid (w1.heap.size ≤ wx.heap.size) := Bx.out.size
  clear bP bI bR HM1 HM
  cases r with
  | true =>
    obtain ⟨hX, hY⟩ := HXY.out rfl
    clear HXY
    go_upto_region 3 with fail
    refine wp_region_lit ?_
    refine wpList_load_row rfl 69 _ rfl g5 rfl 69 (wordsA X Y) (0, 0) (.array 2 67) H5.out (by kernel_rfl) rfl (by kernel_rfl) ?_
    simp only [Act.put, List.setIfInBounds_toArray, List.set_cons_zero, List.set_cons_succ]
    refine wpList_store_row rfl 69 _ _ rfl (w.heap.size + 1 + 1) (wordsA X Y) rfl rfl 69 (wordsA (fun _ => false) (fun _ => false)) bRx.out (by kernel_rfl) (by simp) (by simp [Value.oneCell']) ?_
    refine wpList_nil ?_
    try simp only [Act.put, List.setIfInBounds_toArray, List.set_cons_zero, List.set_cons_succ]
    go_wp2_with fail
    refine leaves_outs (g := w.heap.size + 1 + 1) (B := w.heap.size) rfl rfl (bRx.out.row8 X Y) trivial fun W' ho => ⟨by rw [hX, hY], ?_, ?_⟩
    · exact (only_row (S := fun k => k = kb ∨ w.heap.size ≤ k) OX.out (.inr (by omega)) _).trans (ho.mono fun k hk => .inr hk.1)
    · exact (HMx.out.only (only_row (S := fun k => k = w.heap.size + 1 + 1) (Only.refl _ _) rfl _) (by have := HKW.out; omega)).only ho fun hk => by have := HKW.out; omega
  | false =>
  have c0 := bIx.out.c0
  have c1 := bIx.out.c1
  have c2 := bIx.out.c2
  have c3 := bIx.out.c3
  have l1 := bIx.out.lt
  clear HXY H5
  go_wp2_with fail
  obtain ⟨wl, hwl⟩ : ∃ y, y = ((wx.alloc (.cells #[.int .u64 0, .int .u64 0, .int .u64 0, .int .u64 0, .int .u64 0, .int .u64 0, .int .u64 0, .int .u64 0] 69)).alloc (.cells #[.int .u64 (maskW I 0), .int .u64 (maskW I 1), .int .u64 (maskW I 2), .int .u64 (maskW I 3)] 67)) := ⟨_, rfl⟩
  rw [← hwl]
  have Bl : Hid (Below wx.heap.size wx wl) := by rw [hwl]; exact below2 _ _ _
  have m7 : Hid (OutAt wl wx.heap.size (fun _ => false) (fun _ => false)) := by rw [hwl, out_zero]; exact (OutAt.new wx _ _).below (below1 _ _)
  have m8 : Hid (MaskAt wl (wx.heap.size + 1) I) := by rw [hwl]; exact mask_new_at _ _ (by simp)
  have HSl : Hid (wl.heap.size = wx.heap.size + 2) := by rw [hwl]; simp [Hid]
  clear hwl c0 c1 c2 c3 l1
  have bPl := Lib.hid (bx_below bPx.out Bl.out)
  have bIl := Lib.hid (bIx.out.below Bl.out)
  have bRl := Lib.hid (bRx.out.below Bl.out)
  have HMl := Lib.hid (HMx.out.below Bl.out)
  have OL : Hid (Only (fun k => k = kb ∨ w.heap.size ≤ k) w wl) := OX.out.trans (Only.of_below Bl.out)
  clear bPx bIx bRx HMx
  refine wp_label ?_
  go_wp2_with fail
  refine wp_loop_ghost_k (fun gk a' wr => ∃ (u9 u10 u11 u12 u13 u14 u15 u28 u29 u30 u31 u32 u33 u34 u35 u36 u37 u38 u39 u40 u41 u42 u43 u44 u45 u46 u47 u48 u49 u50 u51 u52 u53 u54 u55 u56 u57 u58 u59 u60 u61 u62 u63 u64 u65 u66 u67 u68 : Value), ∃ (ds : List Deferred), (∃ (L W0 W1 : Nat → Bool), gk = (markedK L 256).length ∧ Hid (SolI zss O p I L W0 W1) ∧ Hid (MaskAt wr (wx.heap.size + 1) L) ∧ Hid (OutAt wr wx.heap.size W0 W1) ∧ Hid (MemoAt wr kb (OutQ zss O p)) ∧ Hid (Only (fun k => k = kb ∨ wx.heap.size ≤ k) wl wr) ∧ Hid (MarksAt wr wl.heap.size ds)) ∧ a' = { tmps := #[.pointer (some ⟨b, 0, none⟩), maskV I, .pointer (some ⟨w.heap.size, 0, none⟩), .pointer (some ⟨w.heap.size + 1, 0, none⟩), .pointer (some ⟨w.heap.size + 1 + 1, 0, none⟩), .pointer (some ⟨g5, 0, none⟩), .bool false, .pointer (some ⟨wx.heap.size, 0, none⟩), .pointer (some ⟨wx.heap.size + 1, 0, none⟩), u9, u10, u11, u12, u13, u14, u15, u16, u17, u18, u19, u20, u21, u22, u23, u24, .bool false, undef, .agg #[.int .u64 (maskW I 0), .int .u64 (maskW I 1), .int .u64 (maskW I 2), .int .u64 (maskW I 3)], u28, u29, u30, u31, u32, u33, u34, u35, u36, u37, u38, u39, u40, u41, u42, u43, u44, u45, u46, u47, u48, u49, u50, u51, u52, u53, u54, u55, u56, u57, u58, u59, u60, u61, u62, u63, u64, u65, u66, u67, u68, undef, undef, undef, undef, undef, undef, undef], defers := ds }) (markedK I 256).length ?start ?round
  case start => exact ⟨_, _, _, _, _, _, _, _, _, _, _, _, _, _, _, _, _, _, _, _, _, _, _, _, _, _, _, _, _, _, _, _, _, _, _, _, _, _, _, _, _, _, _, _, _, _, _, _, [], ⟨_, _, _, rfl, SolI.start HTI.out, m8, m7, HMl, Only.refl _ _, trivial⟩, rfl⟩
  case round =>
    intro gk _ wr hinv JJ KK hJJ hKK
    obtain ⟨u9, u10, u11, u12, u13, u14, u15, u28, u29, u30, u31, u32, u33, u34, u35, u36, u37, u38, u39, u40, u41, u42, u43, u44, u45, u46, u47, u48, u49, u50, u51, u52, u53, u54, u55, u56, u57, u58, u59, u60, u61, u62, u63, u64, u65, u66, u67, u68, ds, ⟨L, W0, W1, hgk, HSI, H8, H7, HMr, HO, HMK⟩, rfl⟩ := hinv
    have hkw := HKW.out
    have hs1 := HS1.out
    have hsx := HSx.out
    have hsl := HSl.out
    have hsr : wl.heap.size ≤ wr.heap.size := HO.out.size
    have OR : Hid (Only (fun k => k = kb ∨ w.heap.size ≤ k) w wr) := OL.out.trans (HO.out.mono fun k hk => by omega)
    have bPr := Lib.hid (bx_only bPl.out HO.out (by omega))
    have bIr := Lib.hid (bIl.out.only HO.out (by omega))
    have bRr := Lib.hid (bRl.out.only HO.out (by omega))
    have HLn : Hid (∀ v, L v = true → v < n) := fun v hv => HI.out v (HSI.out.sub v hv)
    have a0 := H8.out.c0
    have a1 := H8.out.c1
    have a2 := H8.out.c2
    have a3 := H8.out.c3
    cases h0 : noneB L with
    | true =>
      have HC := Lib.hid (fun w => mask_isEmpty (w := w) L h0)
      have hz : ∀ v, L v = false := fun v => not_true fun hh => by
        have h1 := HLn.out v hh
        have h2 := noneB_iff.1 h0 v (by omega)
        rw [hh] at h2; cases h2
      have HD : Hid (W0 = outB zss O p I 0 ∧ W1 = outB zss O p I 1) := by
        have hg := HG.out
        exact HSI.out.done hg.rows.inG (fun v hv => HL.out.own v (by rw [← hg.len]; exact hv)) (fun v hv => (HL.out.pos v (by rw [← hg.len]; exact hv)).1) (fun v hv => by rw [hg.len]; exact HI.out v hv) HTI.out hz
      clear h0 hz
      go_wp2_with (go_at_call 131; refine (HC.out _).mono ?_; rintro e wb ⟨rfl, hb⟩)
      have OB : Hid (Only (fun k => k = kb ∨ w.heap.size ≤ k) w wb) := OR.out.trans (Only.of_below hb)
      have H7b := Lib.hid (H7.out.below hb)
      have HMb := Lib.hid (HMr.out.below hb)
      have bPb := Lib.hid (bx_below bPr.out hb)
      have bIb := Lib.hid (bIr.out.below hb)
      have bRb := Lib.hid (bRr.out.below hb)
      have HMKb : Hid (MarksAt wb wl.heap.size ds) := HMK.out.only (S := fun _ => False) (Only.of_below hb) fun _ h => h.elim
      have HSb : Hid (wr.heap.size ≤ wb.heap.size) := hb.size
      have HSw : Hid (∀ W', Below wb.heap.size wb W' → W'.cell? ⟨w.heap.size, 0, none⟩ = some (.pointer (some ⟨b, 0, none⟩)) ∧ W'.cell? ⟨b, 174, none⟩ = some (.map (some kb)) ∧ W'.cell? ⟨w.heap.size + 1, 0, none⟩ = some (.int .u64 (maskW I 0)) ∧ W'.cell? ⟨w.heap.size + 1, 1, none⟩ = some (.int .u64 (maskW I 1)) ∧ W'.cell? ⟨w.heap.size + 1, 2, none⟩ = some (.int .u64 (maskW I 2)) ∧ W'.cell? ⟨w.heap.size + 1, 3, none⟩ = some (.int .u64 (maskW I 3)) ∧ W'.cell? ⟨wx.heap.size, 0, none⟩ = some (.int .u64 (maskW W0 0)) ∧ W'.cell? ⟨wx.heap.size, 1, none⟩ = some (.int .u64 (maskW W0 1)) ∧ W'.cell? ⟨wx.heap.size, 2, none⟩ = some (.int .u64 (maskW W0 2)) ∧ W'.cell? ⟨wx.heap.size, 3, none⟩ = some (.int .u64 (maskW W0 3)) ∧ W'.cell? ⟨wx.heap.size, 4, none⟩ = some (.int .u64 (maskW W1 0)) ∧ W'.cell? ⟨wx.heap.size, 5, none⟩ = some (.int .u64 (maskW W1 1)) ∧ W'.cell? ⟨wx.heap.size, 6, none⟩ = some (.int .u64 (maskW W1 2)) ∧ W'.cell? ⟨wx.heap.size, 7, none⟩ = some (.int .u64 (maskW W1 3))) := fun W' hb => by
        have m1 := bIb.out.below hb
        have m4 := bx_below bPb.out hb
        have m2 := H7b.out.below hb
        have m5 := (HEnv.out _ (OB.out.trans (Only.of_below hb))).2.known
        exact ⟨m4.cell, m5, m1.c0, m1.c1, m1.c2, m1.c3, m2.c0, m2.c1, m2.c2, m2.c3, m2.c4, m2.c5, m2.c6, m2.c7⟩
      have Kd : Hid (Below wb.heap.size wb wb.drew) := (Below.refl _ _).drew
      obtain ⟨wz, hup, hmz, hoz⟩ := run_update (w := wb.drew) (I := I) (u := outcV W0 W1) (HMb.out.below Kd.out) HI256.out (by unfold OutQ; rw [← HD.out.1, ← HD.out.2])
      have hup2 : (Instr.mapUpdate 127 (.map (some kb)) (.agg #[.int .u64 (maskW I 0), .int .u64 (maskW I 1), .int .u64 (maskW I 2), .int .u64 (maskW I 3)]) (outcV W0 W1)).run Tryd.prog wb.drew = .ok () wz := hup
      have HMz := Lib.hid hmz
      have HOz : Hid (Only (fun k => k = kb) wb wz) := (only_drew (Only.refl _ wb)).trans hoz
      clear hup hmz hoz hb a0 a1 a2 a3
      refine wp_cut (fun a' W => ∃ (u9 u10 u11 u12 u13 u14 u15 u28 u29 u30 u31 u32 u33 u34 u35 u36 u37 u38 u39 u40 u41 u42 u43 u44 u45 u46 u47 u48 u49 u50 u51 u52 u53 u54 u55 u56 u57 u58 u59 u60 u61 u62 u63 u64 u65 u66 u67 u68 u69 u70 u71 u72 u73 u74 u75 : Value), W = wz ∧ a' = { tmps := #[.pointer (some ⟨b, 0, none⟩), maskV I, .pointer (some ⟨w.heap.size, 0, none⟩), .pointer (some ⟨w.heap.size + 1, 0, none⟩), .pointer (some ⟨w.heap.size + 1 + 1, 0, none⟩), .pointer (some ⟨g5, 0, none⟩), .bool false, .pointer (some ⟨wx.heap.size, 0, none⟩), .pointer (some ⟨wx.heap.size + 1, 0, none⟩), u9, u10, u11, u12, u13, u14, u15, u16, u17, u18, u19, u20, u21, u22, u23, u24, .bool false, undef, .agg #[.int .u64 (maskW I 0), .int .u64 (maskW I 1), .int .u64 (maskW I 2), .int .u64 (maskW I 3)], u28, u29, u30, u31, u32, u33, u34, u35, u36, u37, u38, u39, u40, u41, u42, u43, u44, u45, u46, u47, u48, u49, u50, u51, u52, u53, u54, u55, u56, u57, u58, u59, u60, u61, u62, u63, u64, u65, u66, u67, u68, u69, u70, u71, u72, u73, u74, u75], defers := ds }) ?reg16 ?rest16
      case reg16 =>
        refine wp_region_M (S := (fun W' => W'.cell? ⟨w.heap.size, 0, none⟩ = some (.pointer (some ⟨b, 0, none⟩)) ∧ W'.cell? ⟨b, 174, none⟩ = some (.map (some kb)) ∧ W'.cell? ⟨w.heap.size + 1, 0, none⟩ = some (.int .u64 (maskW I 0)) ∧ W'.cell? ⟨w.heap.size + 1, 1, none⟩ = some (.int .u64 (maskW I 1)) ∧ W'.cell? ⟨w.heap.size + 1, 2, none⟩ = some (.int .u64 (maskW I 2)) ∧ W'.cell? ⟨w.heap.size + 1, 3, none⟩ = some (.int .u64 (maskW I 3)) ∧ W'.cell? ⟨wx.heap.size, 0, none⟩ = some (.int .u64 (maskW W0 0)) ∧ W'.cell? ⟨wx.heap.size, 1, none⟩ = some (.int .u64 (maskW W0 1)) ∧ W'.cell? ⟨wx.heap.size, 2, none⟩ = some (.int .u64 (maskW W0 2)) ∧ W'.cell? ⟨wx.heap.size, 3, none⟩ = some (.int .u64 (maskW W0 3)) ∧ W'.cell? ⟨wx.heap.size, 4, none⟩ = some (.int .u64 (maskW W1 0)) ∧ W'.cell? ⟨wx.heap.size, 5, none⟩ = some (.int .u64 (maskW W1 1)) ∧ W'.cell? ⟨wx.heap.size, 6, none⟩ = some (.int .u64 (maskW W1 2)) ∧ W'.cell? ⟨wx.heap.size, 7, none⟩ = some (.int .u64 (maskW W1 3)))) (m := 6) (by kernel_rfl) (HSw.out _ Kd.out) (fun hHeld => ?_)
        refine wpAnyM_take (i := 0) (v := ?vm10) rfl (by kernel_rfl) (by decide) (by kernel_rfl) (by kernel_rfl) (by kernel_rfl) (fun _ _ _ h => h) (Or.inl ⟨by rfl, ?hm10⟩) (by assumption) ?_
        case hm10 => (intro w hSw; (try dsimp only at hSw); go_simp; first | done | with_reducible rfl)
        try simp only [Act.put, List.setIfInBounds_toArray, List.set_cons_zero, List.set_cons_succ]
        refine wpAnyM_take (i := 1) (v := ?vm11) rfl (by kernel_rfl) (by decide) (by kernel_rfl) (by kernel_rfl) (by kernel_rfl) (fun _ _ _ h => h) (Or.inl ⟨by rfl, ?hm11⟩) (by assumption) ?_
        case hm11 => (intro w hSw; (try dsimp only at hSw); go_simp; first | done | with_reducible rfl)
        try simp only [Act.put, List.setIfInBounds_toArray, List.set_cons_zero, List.set_cons_succ]
        refine wpAnyM_take (i := 2) (v := ?vm12) rfl (by kernel_rfl) (by decide) (by kernel_rfl) (by kernel_rfl) (by kernel_rfl) (fun _ _ _ h => h) (Or.inl ⟨by rfl, ?hm12⟩) (by assumption) ?_
        case hm12 => (intro w hSw; (try dsimp only at hSw); go_simp; first | done | with_reducible rfl)
        try simp only [Act.put, List.setIfInBounds_toArray, List.set_cons_zero, List.set_cons_succ]
        refine wpAnyM_take (i := 3) (v := ?vm13) rfl (by kernel_rfl) (by decide) (by kernel_rfl) (by kernel_rfl) (by kernel_rfl) (fun _ _ _ h => h) (Or.inl ⟨by rfl, ?hm13⟩) (by assumption) ?_
        case hm13 => (intro w hSw; (try dsimp only at hSw); go_simp; first | done | with_reducible rfl)
        try simp only [Act.put, List.setIfInBounds_toArray, List.set_cons_zero, List.set_cons_succ]
        refine wpAnyM_take (i := 4) (v := ?vm14) rfl (by kernel_rfl) (by decide) (by kernel_rfl) (by kernel_rfl) (by kernel_rfl) (fun _ _ _ h => h) (Or.inl ⟨by rfl, ?hm14⟩) (by assumption) ?_
        case hm14 => (intro w hSw; (try dsimp only at hSw); go_simp; first | done | with_reducible rfl)
        try simp only [Act.put, List.setIfInBounds_toArray, List.set_cons_zero, List.set_cons_succ]
        refine wpAnyM_take (i := 5) (v := ?vm15) rfl (by kernel_rfl) (by decide) (by kernel_rfl) (by kernel_rfl) (by kernel_rfl) (fun _ _ _ h => h) (Or.inl ⟨by rfl, ?hm15⟩) (by assumption) ?_
        case hm15 => (intro w hSw; (try dsimp only at hSw); go_simp; first | done | with_reducible rfl)
        try simp only [Act.put, List.setIfInBounds_toArray, List.set_cons_zero, List.set_cons_succ]
        clear hHeld
        refine wpAnyM_one (i := 6) (by kernel_rfl) rfl (fun K hK => ?_)
        go_simp
        refine hK.out _ _ (fun h => absurd h (by decide)) (fun _ => ?_)
        clear hK K
        try simp only [Act.put, List.setIfInBounds_toArray, List.set_cons_zero, List.set_cons_succ]
        refine wpAnyM_done (by kernel_rfl) ?_ _
        exact ⟨_, _, _, _, _, _, _, _, _, _, _, _, _, _, _, _, _, _, _, _, _, _, _, _, _, _, _, _, _, _, _, _, _, _, _, _, _, _, _, _, _, _, _, _, _, _, _, _, _, _, _, _, _, _, _, rfl, rfl⟩
      case rest16 =>
      rintro a' W ⟨u9, u10, u11, u12, u13, u14, u15, u28, u29, u30, u31, u32, u33, u34, u35, u36, u37, u38, u39, u40, u41, u42, u43, u44, u45, u46, u47, u48, u49, u50, u51, u52, u53, u54, u55, u56, u57, u58, u59, u60, u61, u62, u63, u64, u65, u66, u67, u68, u69, u70, u71, u72, u73, u74, u75, rfl, rfl⟩
      have H7z := Lib.hid (H7b.out.only HOz.out (by omega))
      have bRz := Lib.hid (bRb.out.only HOz.out (by omega))
      have HMKz : Hid (MarksAt W wl.heap.size ds) := HMKb.out.only HOz.out fun D hD _ => by
        rw [hD]
        obtain ⟨es, c, h1, _⟩ := HMb.out
        rw [h1]
        simp
      clear hup2 HSw Kd
      go_upto_region 17 with fail
      refine wp_region_lit ?_
      refine wpList_load_row rfl 69 _ rfl wx.heap.size rfl 69 (wordsA W0 W1) (0, 0) (.array 2 67) H7z.out (by kernel_rfl) rfl (by kernel_rfl) ?_
      simp only [Act.put, List.setIfInBounds_toArray, List.set_cons_zero, List.set_cons_succ]
      refine wpList_store_row rfl 69 _ _ rfl (w.heap.size + 1 + 1) (wordsA W0 W1) rfl rfl 69 (wordsA (fun _ => false) (fun _ => false)) bRz.out (by kernel_rfl) (by simp) (by simp [Value.oneCell']) ?_
      refine wpList_nil ?_
      try simp only [Act.put, List.setIfInBounds_toArray, List.set_cons_zero, List.set_cons_succ]
      go_wp2_with fail
      have OZ : Only (fun k => k = kb ∨ w.heap.size ≤ k) w (W.setRow (w.heap.size + 1 + 1) (wordsA W0 W1)) := only_row (S := fun k => k = kb ∨ w.heap.size ≤ k) (OB.out.trans (HOz.out.mono fun k hk => .inl hk)) (.inr (by omega)) _
      refine leaves_outs (g := w.heap.size + 1 + 1) (B := wl.heap.size) rfl rfl (bRz.out.row8 W0 W1) (HMKz.out.only (only_row (S := fun k => k = w.heap.size + 1 + 1) (Only.refl _ _) rfl _) fun D hD _ => ?_) fun W' ho => ⟨by rw [HD.out.1, HD.out.2], OZ.trans (ho.mono fun k hk => .inr (by omega)), ?_⟩
      · rw [hD]; exact not_mark bRz.out rfl
      · exact (HMz.out.only (only_row (S := fun k => k = w.heap.size + 1 + 1) (Only.refl _ _) rfl _) (by omega)).only ho fun hk => by omega
    | false =>
      have HC := Lib.hid (fun w => mask_isEmpty (w := w) L h0)
      have H0 := Lib.hid h0
      clear h0
      go_upto_region 7 with (go_at_call 131; refine (HC.out _).mono ?_; rintro e wb ⟨rfl, hb⟩)
      have OB : Hid (Only (fun k => k = kb ∨ w.heap.size ≤ k) w wb) := OR.out.trans (Only.of_below hb)
      have H8b := Lib.hid (H8.out.below hb)
      have H7b := Lib.hid (H7.out.below hb)
      have HMb := Lib.hid (HMr.out.below hb)
      have bPb := Lib.hid (bx_below bPr.out hb)
      have HMKb : Hid (MarksAt wb wl.heap.size ds) := HMK.out.only (S := fun _ => False) (Only.of_below hb) fun _ h => h.elim
      have OLb : Hid (Only (fun k => k = kb ∨ wx.heap.size ≤ k) wl wb) := HO.out.trans (Only.of_below hb)
      have HSb : Hid (wr.heap.size ≤ wb.heap.size) := hb.size
      have b0 := H8b.out.c0
      have b1 := H8b.out.c1
      have b2 := H8b.out.c2
      have b3 := H8b.out.c3
      have b4 := bPb.out.cell
      clear hb a0 a1 a2 a3 HC H8 H7 HMr bPr HMK HO
      go_wp2_with fail
      refine (lastPart_is (HEnv.out _ OB.out).1 (HEnv.out _ OB.out).2 HG.out HLn.out H0.out).mono ?_
      rintro e wc ⟨S, rfl, hSh, hSne, hb⟩
      have HSH := Lib.hid hSh
      have HSNE := Lib.hid hSne
      have OC : Hid (Only (fun k => k = kb ∨ w.heap.size ≤ k) w wc) := OB.out.trans (Only.of_below hb)
      have H8c := Lib.hid (H8b.out.below hb)
      have H7c := Lib.hid (H7b.out.below hb)
      have HMc := Lib.hid (HMb.out.below hb)
      have bPc := Lib.hid (bx_below bPb.out hb)
      have HMKc : Hid (MarksAt wc wl.heap.size ds) := HMKb.out.only (S := fun _ => False) (Only.of_below hb) fun _ h => h.elim
      have OLc : Hid (Only (fun k => k = kb ∨ wx.heap.size ≤ k) wl wc) := OLb.out.trans (Only.of_below hb)
      have HSc : Hid (wb.heap.size ≤ wc.heap.size) := hb.size
      have d4 := bPc.out.cell
      have d5 := bPc.out.lt
      clear hb b0 b1 b2 b3 b4 H8b H7b HMb bPb HMKb OLb
      go_wp2_with fail
      obtain ⟨wd, hwd⟩ : ∃ y, y = wc.alloc (maskO S) := ⟨_, rfl⟩
      rw [← hwd]
      refine (backM_is _ _ _ _).mono ?_
      rintro e w2 ⟨rfl, hw2⟩
      have Bd : Hid (Below wc.heap.size wc w2) := by rw [hw2, hwd]; exact below2 _ _ _
      have H9 : Hid (MaskAt w2 wc.heap.size S) := by rw [hw2, hwd]; exact (MaskAt.new wc S).below (below1 _ _)
      have HSl2 : Hid (w2.cell? ⟨wd.heap.size, 0, none⟩ = some (.slice (some ⟨b, 8, none⟩) 41 41)) := by rw [hw2]; exact (Boxed.new wd _ _).cell
      have HSd : Hid (wd.heap.size = wc.heap.size + 1 ∧ w2.heap.size = wc.heap.size + 2) := by rw [hw2, hwd]; simp [Hid]
      clear hwd hw2 d4 d5
      have O2 : Hid (Only (fun k => k = kb ∨ w.heap.size ≤ k) w w2) := OC.out.trans (Only.of_below Bd.out)
      have H8d := Lib.hid (H8c.out.below Bd.out)
      have H7d := Lib.hid (H7c.out.below Bd.out)
      have HMd := Lib.hid (HMc.out.below Bd.out)
      have bPd := Lib.hid (bx_below bPc.out Bd.out)
      have HMKd : Hid (MarksAt w2 wl.heap.size ds) := HMKc.out.only (S := fun _ => False) (Only.of_below Bd.out) fun _ h => h.elim
      have OLd : Hid (Only (fun k => k = kb ∨ wx.heap.size ≤ k) wl w2) := OLc.out.trans (Only.of_below Bd.out)
      have HLEV := Lib.hid (HEnv.out _ O2.out).2.lev
      have HBlt := Lib.hid (HEnv.out _ O2.out).2.lt
      have HBw := Lib.hid (HEnv.out _ (Only.refl _ w)).2.lt
      have HAP := Lib.hid (HEnv.out _ (Only.refl _ w)).2.apart
      have HSn : Hid (∀ v, S v = true → v < n) := fun v hv => HLn.out v (HSH.out.1 v hv)
      clear H8c H7c HMc bPc HMKc OLc
      go_wp2_with fail
      have hsd := HSd.out
      have hsc := HSc.out
      have hsb := HSb.out
      have hap := HAP.out
      have hbw := HBw.out
      refine wp_levels (Bs := wd.heap.size) (b := b) (off := 8) (cap := 41) (n := 41) (E := Lv) rfl (by omega) (by omega) HBlt.out.1 HSl2.out HLEV.out rfl (fun k => k = kb ∨ k = wx.heap.size ∨ k = wx.heap.size + 1)
        (fun k hk => by omega)
        (fun pre W => (∀ x ∈ pre, ∀ v, S v = true → p v ≠ ((x.1 : Nat) : Int)) ∧ MaskAt W (wx.heap.size + 1) L ∧ OutAt W wx.heap.size W0 W1 ∧ MemoAt W kb (OutQ zss O p))
        (fun c pre W => c = .exit 1 ∧ ∃ (L' X0 X1 : Nat → Bool), ((∃ k, k ≤ 41 ∧ pre = (backK 41).take k) → SolI zss O p I L' X0 X1) ∧ (markedK L' 256).length < (markedK L 256).length ∧ MaskAt W (wx.heap.size + 1) L' ∧ OutAt W wx.heap.size X0 X1 ∧ MemoAt W kb (OutQ zss O p))
        (fun pre A A' h ho => ⟨h.1, h.2.1.only ho (by omega), h.2.2.1.only ho (by omega), h.2.2.2.only ho (by omega)⟩)
        (fun c pre A A' h ho => by
          obtain ⟨h1, L', X0, X1, h2, h3, h4, h5, h6⟩ := h
          exact ⟨h1, L', X0, X1, h2, h3, h4.only ho (by omega), h5.only ho (by omega), h6.only ho (by omega)⟩)
        ⟨fun _ h => absurd h (by simp), H8d.out, H7d.out, HMd.out⟩ ?fr ?assign ?body ?done ?stop
      case assign =>
        intro l x W gl K hgl hK
        dsimp only [encK]
        gi_wp2
        exact hK
      case body =>
        intro l pre x W gl hR hO hgl hML
        obtain ⟨hpre, hM8, hO7, hMm⟩ := hR
        obtain ⟨q, hq⟩ : ∃ q : Nat, q = x.1 := ⟨_, rfl⟩
        have hq41 : q < 41 := by rw [hq]; exact x.2
        have hq0 : (0 : Int) ≤ (q : Int) := by omega
        have HPX : Hid ((∃ k, k ≤ 41 ∧ pre ++ [x] = (backK 41).take k) → ∀ v, S v = true → p v ≤ (q : Int)) := fun ⟨k, _, hk⟩ v hv => by
          have hpv := HL.out.pos v (HSn.out v hv)
          apply Classical.byContradiction
          intro hc
          have hm := backK_before hk ⟨(p v).toNat, by omega⟩ (by show x.1 < (p v).toNat; omega)
          refine hpre _ hm v hv ?_
          show p v = (((p v).toNat : Nat) : Int)
          omega
        have HPR : Hid ((∀ v, S v = true → p v ≠ (q : Int)) → ∀ y ∈ pre ++ [x], ∀ v, S v = true → p v ≠ ((y.1 : Nat) : Int)) := fun h y hy v hv => by
          rcases List.mem_append.1 hy with hy | hy
          · exact hpre y hy v hv
          · rw [List.mem_singleton.1 hy, ← hq]; exact h v hv
        rw [← hq] at hML ⊢
        clear hq
        obtain ⟨T, hTT⟩ : ∃ T, andB (Lv q) S = T := ⟨_, rfl⟩
        have HT : Hid (∀ v, T v = true ↔ S v = true ∧ p v = (q : Int)) := fun v => by
          rw [← hTT]
          unfold andB
          rw [Bool.and_eq_true, HL.out.is q hq41 v]
          exact ⟨fun h => ⟨h.2, h.1.2⟩, fun h => ⟨⟨HSn.out v h.1, h.2⟩, h.1⟩⟩
        have hsW := hO.size
        have OW : Hid (Only (fun k => k = kb ∨ w.heap.size ≤ k) w W) := O2.out.trans (hO.mono fun k hk => by omega)
        have bPW := Lib.hid (bx_only bPd.out hO (by omega))
        have H9W := Lib.hid (H9.out.only hO (by omega))
        have H8W := Lib.hid hM8
        have H7W := Lib.hid hO7
        have HMW := Lib.hid hMm
        have e0 := hML.c0
        have e1 := hML.c1
        have e2 := hML.c2
        have e3 := hML.c3
        have s0 := H9W.out.c0
        have s1 := H9W.out.c1
        have s2 := H9W.out.c2
        have s3 := H9W.out.c3
        clear hO hM8 hO7 hMm hpre hML
        gi_wp2
        refine ⟨trivial, ?_⟩
        refine (CallsIn.inRound l (callsIn_wide.2 (mask_meet_as hTT))).mono ?_
        rintro e Wa ⟨rfl, hb⟩
        clear e0 e1 e2 e3 s0 s1 s2 s3 hTT
        have Ka := Lib.hid hb
        have HSa : Hid (W.heap.size ≤ Wa.heap.size) := hb.size
        clear hb
        gi_wp2
        obtain ⟨Wt, hWt⟩ : ∃ y, y = Wa.alloc (maskO T) := ⟨_, rfl⟩
        rw [← hWt]
        have Bt : Hid (Below W.heap.size W Wt) := by rw [hWt]; exact Ka.out.trans ((below1 _ _).mono HSa.out)
        have HTt : Hid (MaskAt Wt Wa.heap.size T) := by rw [hWt]; exact MaskAt.new _ _
        clear hWt
        have hsa := HSa.out
        cases hz : noneB T with
        | true =>
          refine ⟨trivial, ?_⟩
          refine (CallsIn.inRound l (callsIn_wide.2 (mask_isEmpty T hz))).mono ?_
          rintro e We ⟨rfl, hb⟩
          have Ke := Lib.hid (Bt.out.trans (hb.mono Bt.out.size))
          clear hb
          have hno : ∀ v, S v = true → p v ≠ (q : Int) := fun v hv hpv => by
            have h1 := (HT.out v).2 ⟨hv, hpv⟩
            have h2 := noneB_iff.1 hz v (by have := HSn.out v hv; omega)
            rw [h1] at h2; cases h2
          have HR := Lib.hid (HPR.out hno)
          clear hno hz
          gi_wp2
          exact ⟨Only.of_below Ke.out, HR.out, H8W.out.below Ke.out, H7W.out.below Ke.out, HMW.out.below Ke.out⟩
        | false =>
          have hTne : ∃ v, T v = true := by
            apply Classical.byContradiction
            intro hn'
            have h2 := noneB_iff.2 fun v _ => not_true fun hh => hn' ⟨v, hh⟩
            rw [hz] at h2
            cases h2
          have HTNE := Lib.hid hTne
          refine ⟨trivial, ?_⟩
          refine (CallsIn.inRound l (callsIn_wide.2 (mask_isEmpty T hz))).mono ?_
          rintro e We ⟨rfl, hb⟩
          have Ke := Lib.hid (Bt.out.trans (hb.mono Bt.out.size))
          have HTe := Lib.hid (HTt.out.below hb)
          have HSe : Hid (Wt.heap.size ≤ We.heap.size) := hb.size
          clear hb hz hTne
          have OE : Hid (Only (fun k => k = kb ∨ w.heap.size ≤ k) w We) := OW.out.trans (Only.of_below Ke.out)
          have bPe := Lib.hid (bx_below bPW.out Ke.out)
          have H9e := Lib.hid (H9W.out.below Ke.out)
          have H8e := Lib.hid (H8W.out.below Ke.out)
          have H7e := Lib.hid (H7W.out.below Ke.out)
          have HMe := Lib.hid (HMW.out.below Ke.out)
          have x0 := HTe.out.c0
          have x1 := HTe.out.c1
          have x2 := HTe.out.c2
          have x3 := HTe.out.c3
          have y0 := H9e.out.c0
          have y1 := H9e.out.c1
          have y2 := H9e.out.c2
          have y3 := H9e.out.c3
          have z0 := bPe.out.cell
          clear bPW H9W H8W H7W HMW HTt
          gi_wp2
          refine ⟨trivial, ?_⟩
          have hle : ∀ J, (markedK J 256).length < (markedK S 256).length → (markedK J 256).length < (markedK I 256).length := fun J hJ => Nat.lt_of_lt_of_le hJ (markedK_le 256 fun v _ hv => HSI.out.sub v (HSH.out.1 v hv))
          refine (CallsIn.inRound l (callsIn_wide.2 (gain_holds (q := q) (HEnv.out _ OE.out).1 (HEnv.out _ OE.out).2 HMe.out HG.out HL.out.own (fun v hv => (HL.out.pos v hv).1) HLn.out HSI.out.tot HSH.out (by omega) HT.out HTNE.out fun J h1 h2 h3 => HIH.out J (hle J h1) h2 h3))).mono ?_
          clear hle
          rintro e Wg ⟨who, Z, ⟨rfl, hwho, hH, hZne, hZL⟩, ho, hm⟩
          have HH := Lib.hid hH
          have HZNE := Lib.hid hZne
          have HZL := Lib.hid hZL
          have HMg := Lib.hid hm
          have hse := HSe.out
          have hst := Bt.out.size
          have OG : Hid (Only (fun k => k = kb ∨ w.heap.size ≤ k) w Wg) := OE.out.trans (ho.mono fun k hk => by omega)
          have OWg : Hid (Only (fun k => k = kb ∨ W.heap.size ≤ k) W Wg) := (Only.of_below Ke.out).trans (ho.mono fun k hk => by omega)
          have bPg := Lib.hid (bx_only bPe.out ho (by have := bPe.out.lt; omega))
          have H8g := Lib.hid (H8e.out.only ho (by have := H8e.out.lt; omega))
          have H7g := Lib.hid (H7e.out.only ho (by have := H7e.out.lt; omega))
          have HSg : Hid (We.heap.size ≤ Wg.heap.size) := ho.size
          clear ho hm hH hZne hZL x0 x1 x2 x3 y0 y1 y2 y3 z0 bPe H9e H8e H7e HMe
          have v0 := H8g.out.c0
          have v1 := H8g.out.c1
          have v2 := H8g.out.c2
          have v3 := H8g.out.c3
          have v4 := H8g.out.lt
          have v5 := bPg.out.cell
          have v6 := bPg.out.lt
          rcases hwho with rfl | rfl
          · skip
            gi_wp2
            obtain ⟨Wz, hWz⟩ : ∃ y, y = Wg.alloc (maskO Z) := ⟨_, rfl⟩
            rw [← hWz]
            have Bz : Hid (Below Wg.heap.size Wg Wz) := by rw [hWz]; exact below1 _ _
            clear hWz
            have OZ : Hid (Only (fun k => k = kb ∨ w.heap.size ≤ k) w Wz) := OG.out.trans (Only.of_below Bz.out)
            refine ⟨trivial, ?_⟩
            refine (CallsIn.inRound l (callsIn_wide.2 (attract_is (i := 0) (HEnv.out _ OZ.out).1 (HEnv.out _ OZ.out).2 HG.out (by omega) HLn.out HZL.out))).mono ?_
            rintro e Wh ⟨rfl, hb⟩
            have Bh := Lib.hid (Bz.out.trans (hb.mono Bz.out.size))
            have HSh2 : Hid (Wg.heap.size ≤ Wh.heap.size) := Bh.out.size
            clear hb v0 v1 v2 v3 v4 v5 v6
            have ht : ∃ D, attrB zss O ((0 : Nat) : Int) L Z = D := ⟨_, rfl⟩
            obtain ⟨D, hD⟩ := ht
            have HDD := Lib.hid hD
            rw [hD]
            clear hD
            gi_wp2
            obtain ⟨Wi, hWi⟩ : ∃ y, y = Wh.alloc (maskO D) := ⟨_, rfl⟩
            rw [← hWi]
            have Bi : Hid (Below Wg.heap.size Wg Wi) := by rw [hWi]; exact Bh.out.trans ((below1 _ _).mono HSh2.out)
            have H15 : Hid (MaskAt Wi Wh.heap.size D) := by rw [hWi]; exact MaskAt.new _ _
            clear hWi
            have H8i := Lib.hid (H8g.out.below Bi.out)
            have H7i := Lib.hid (H7g.out.below Bi.out)
            have HMi := Lib.hid (HMg.out.below Bi.out)
            have hsg := HSg.out
            have hsh := HSh2.out
            have HSw : Hid (∀ W', Only (fun k => k = wx.heap.size ∨ Wi.heap.size ≤ k) Wi W' → W'.cell? ⟨wx.heap.size + 1, 0, none⟩ = some (.int .u64 (maskW L 0)) ∧ W'.cell? ⟨wx.heap.size + 1, 1, none⟩ = some (.int .u64 (maskW L 1)) ∧ W'.cell? ⟨wx.heap.size + 1, 2, none⟩ = some (.int .u64 (maskW L 2)) ∧ W'.cell? ⟨wx.heap.size + 1, 3, none⟩ = some (.int .u64 (maskW L 3)) ∧ W'.cell? ⟨Wh.heap.size, 0, none⟩ = some (.int .u64 (maskW D 0)) ∧ W'.cell? ⟨Wh.heap.size, 1, none⟩ = some (.int .u64 (maskW D 1)) ∧ W'.cell? ⟨Wh.heap.size, 2, none⟩ = some (.int .u64 (maskW D 2)) ∧ W'.cell? ⟨Wh.heap.size, 3, none⟩ = some (.int .u64 (maskW D 3))) := fun W' ho => by
              have m1 := H8i.out.only ho (by have := H8i.out.lt; omega)
              have m2 := H15.out.only ho (by have := H15.out.lt; omega)
              exact ⟨m1.c0, m1.c1, m1.c2, m1.c3, m2.c0, m2.c1, m2.c2, m2.c3⟩
            have Kd : Hid (Below Wi.heap.size Wi Wi.drew) := (Below.refl _ _).drew
            have o0 := H7i.out.c0
            have o1 := H7i.out.c1
            have o2 := H7i.out.c2
            have o3 := H7i.out.c3
            gi_wp2
            refine wpIn_region_M (S := (fun W' => W'.cell? ⟨wx.heap.size + 1, 0, none⟩ = some (.int .u64 (maskW L 0)) ∧ W'.cell? ⟨wx.heap.size + 1, 1, none⟩ = some (.int .u64 (maskW L 1)) ∧ W'.cell? ⟨wx.heap.size + 1, 2, none⟩ = some (.int .u64 (maskW L 2)) ∧ W'.cell? ⟨wx.heap.size + 1, 3, none⟩ = some (.int .u64 (maskW L 3)) ∧ W'.cell? ⟨Wh.heap.size, 0, none⟩ = some (.int .u64 (maskW D 0)) ∧ W'.cell? ⟨Wh.heap.size, 1, none⟩ = some (.int .u64 (maskW D 1)) ∧ W'.cell? ⟨Wh.heap.size, 2, none⟩ = some (.int .u64 (maskW D 2)) ∧ W'.cell? ⟨Wh.heap.size, 3, none⟩ = some (.int .u64 (maskW D 3)))) (m := 11) (by kernel_rfl) (by kernel_rfl) (HSw.out _ (Only.of_below Kd.out)) (fun hHeld => ?_)
            refine wpAnyM_take (i := 0) (v := ?vm16) rfl (by kernel_rfl) (by decide) (by kernel_rfl) (by kernel_rfl) (by kernel_rfl) (fun _ _ _ h => h) (Or.inl ⟨by rfl, ?hm16⟩) (by assumption) ?_
            case hm16 => (intro w hSw; (try dsimp only at hSw); go_simp; first | done | with_reducible rfl)
            try simp only [Act.put, List.setIfInBounds_toArray, List.set_cons_zero, List.set_cons_succ]
            refine wpAnyM_take (i := 1) (v := ?vm17) rfl (by kernel_rfl) (by decide) (by kernel_rfl) (by kernel_rfl) (by kernel_rfl) (fun _ _ _ h => h) (Or.inl ⟨by rfl, ?hm17⟩) (by assumption) ?_
            case hm17 => (intro w hSw; (try dsimp only at hSw); go_simp; first | done | with_reducible rfl)
            try simp only [Act.put, List.setIfInBounds_toArray, List.set_cons_zero, List.set_cons_succ]
            refine wpAnyM_take (i := 2) (v := ?vm18) rfl (by kernel_rfl) (by decide) (by kernel_rfl) (by kernel_rfl) (by kernel_rfl) (fun _ _ _ h => h) (Or.inl ⟨by rfl, ?hm18⟩) (by assumption) ?_
            case hm18 => (intro w hSw; (try dsimp only at hSw); go_simp; first | done | with_reducible rfl)
            try simp only [Act.put, List.setIfInBounds_toArray, List.set_cons_zero, List.set_cons_succ]
            refine wpAnyM_take (i := 4) (v := ?vm19) rfl (by kernel_rfl) (by decide) (by kernel_rfl) (by kernel_rfl) (by kernel_rfl) (fun _ _ _ h => h) (Or.inl ⟨by rfl, ?hm19⟩) (by assumption) ?_
            case hm19 => (intro w hSw; (try dsimp only at hSw); go_simp; first | done | with_reducible rfl)
            try simp only [Act.put, List.setIfInBounds_toArray, List.set_cons_zero, List.set_cons_succ]
            refine wpAnyM_take (i := 6) (v := ?vm20) rfl (by kernel_rfl) (by decide) (by kernel_rfl) (by kernel_rfl) (by kernel_rfl) (fun _ _ _ h => h) (Or.inl ⟨by rfl, ?hm20⟩) (by assumption) ?_
            case hm20 => (intro w hSw; (try dsimp only at hSw); go_simp; first | done | with_reducible rfl)
            try simp only [Act.put, List.setIfInBounds_toArray, List.set_cons_zero, List.set_cons_succ]
            refine wpAnyM_take (i := 7) (v := ?vm21) rfl (by kernel_rfl) (by decide) (by kernel_rfl) (by kernel_rfl) (by kernel_rfl) (fun _ _ _ h => h) (Or.inl ⟨by rfl, ?hm21⟩) (by assumption) ?_
            case hm21 => (intro w hSw; (try dsimp only at hSw); go_simp; first | done | with_reducible rfl)
            try simp only [Act.put, List.setIfInBounds_toArray, List.set_cons_zero, List.set_cons_succ]
            refine wpAnyM_one (i := 3) (by kernel_rfl) rfl (fun K hK => ?_)
            go_simp
            refine hK.out _ _ (fun _ => HSw.out _ (Only.of_below Kd.out)) (fun hHeld => ?_)
            have hHeld := hHeld (by decide)
            clear hK K
            try simp only [Act.put, List.setIfInBounds_toArray, List.set_cons_zero, List.set_cons_succ]
            clear o0 o1 o2 o3
            refine wpAnyM_one (i := 5) (by kernel_rfl) rfl (fun K hK => ?_)
            go_simp
            go_at_call 107
            refine (mask_with _ _).mono ?_
            rintro e Wj ⟨rfl, hb⟩
            have Kj := Lib.hid (Kd.out.trans (hb.mono Kd.out.size))
            clear hb
            go_wp2_with fail
            refine hK.out _ _ (fun _ => HSw.out _ (Only.of_below Kj.out)) (fun hHeld => ?_)
            have hHeld := hHeld (by decide)
            clear hK K
            try simp only [Act.put, List.setIfInBounds_toArray, List.set_cons_zero, List.set_cons_succ]
            refine wpAnyM_take (i := 9) (v := ?vm22) rfl (by kernel_rfl) (by decide) (by kernel_rfl) (by kernel_rfl) (by kernel_rfl) (fun _ _ _ h => h) (Or.inl ⟨by rfl, ?hm22⟩) (by assumption) ?_
            case hm22 => (intro w hSw; (try dsimp only at hSw); go_simp; first | done | with_reducible rfl)
            try simp only [Act.put, List.setIfInBounds_toArray, List.set_cons_zero, List.set_cons_succ]
            refine wpAnyM_one (i := 8) (by kernel_rfl) rfl (fun K hK => ?_)
            go_simp
            go_at_call 136
            refine (mask_less _ _).mono ?_
            rintro e Wk ⟨rfl, hb⟩
            have Kk := Lib.hid (Kj.out.trans (hb.mono Kj.out.size))
            clear hb
            go_wp2_with fail
            refine hK.out _ _ (fun _ => HSw.out _ (Only.of_below Kk.out)) (fun hHeld => ?_)
            have hHeld := hHeld (by decide)
            clear hK K
            try simp only [Act.put, List.setIfInBounds_toArray, List.set_cons_zero, List.set_cons_succ]
            have mA := H7i.out.below Kk.out
            have z0 := mA.c0
            have fz0 := mA.frozen 0
            have z1 := mA.c1
            have fz1 := mA.frozen 1
            have z2 := mA.c2
            have fz2 := mA.frozen 2
            have z3 := mA.c3
            have fz3 := mA.frozen 3
            have mB := Lib.hid (mA.put0 (orB W0 D))
            have OK : Hid (Only (fun k => k = wx.heap.size ∨ Wi.heap.size ≤ k) Wi ((((Wk.setCell ⟨wx.heap.size, 0, none⟩ (.int .u64 (maskW (orB W0 D) 0))).setCell ⟨wx.heap.size, 1, none⟩ (.int .u64 (maskW (orB W0 D) 1))).setCell ⟨wx.heap.size, 2, none⟩ (.int .u64 (maskW (orB W0 D) 2))).setCell ⟨wx.heap.size, 3, none⟩ (.int .u64 (maskW (orB W0 D) 3)))) := only_put4 (S := fun k => k = wx.heap.size ∨ Wi.heap.size ≤ k) (Only.of_below Kk.out |>.mono fun k hk => by exact hk) (.inl rfl) (.int .u64 (maskW (orB W0 D) 0)) (.int .u64 (maskW (orB W0 D) 1)) (.int .u64 (maskW (orB W0 D) 2)) (.int .u64 (maskW (orB W0 D) 3)) 0
            clear mA hHeld
            refine wpAnyM_one (i := 10) (by kernel_rfl) rfl (fun K hK => ?_)
            go_simp
            refine hK.out _ _ (fun _ => HSw.out _ OK.out) (fun hHeld => ?_)
            have hHeld := hHeld (by decide)
            clear hK K
            try simp only [Act.put, List.setIfInBounds_toArray, List.set_cons_zero, List.set_cons_succ]
            clear hHeld z0 fz0 z1 fz1 z2 fz2 z3 fz3
            have H8k := Lib.hid ((H8i.out.below Kk.out).only (only_put4 (S := fun k => k = wx.heap.size) (Only.refl _ Wk) (g := wx.heap.size) rfl (.int .u64 (maskW (orB W0 D) 0)) (.int .u64 (maskW (orB W0 D) 1)) (.int .u64 (maskW (orB W0 D) 2)) (.int .u64 (maskW (orB W0 D) 3)) 0) (by omega))
            have M7k := Lib.hid ((HMi.out.below Kk.out).only (only_put4 (S := fun k => k = wx.heap.size) (Only.refl _ Wk) (g := wx.heap.size) rfl (.int .u64 (maskW (orB W0 D) 0)) (.int .u64 (maskW (orB W0 D) 1)) (.int .u64 (maskW (orB W0 D) 2)) (.int .u64 (maskW (orB W0 D) 3)) 0) (by omega))
            obtain ⟨Wo, hWo⟩ : ∃ y, y = ((((Wk.setCell ⟨wx.heap.size, 0, none⟩ (.int .u64 (maskW (orB W0 D) 0))).setCell ⟨wx.heap.size, 1, none⟩ (.int .u64 (maskW (orB W0 D) 1))).setCell ⟨wx.heap.size, 2, none⟩ (.int .u64 (maskW (orB W0 D) 2))).setCell ⟨wx.heap.size, 3, none⟩ (.int .u64 (maskW (orB W0 D) 3))) := ⟨_, rfl⟩
            have H8o : Hid (MaskAt Wo (wx.heap.size + 1) L) := by rw [hWo]; exact H8k.out
            have HMo : Hid (MemoAt Wo kb (OutQ zss O p)) := by rw [hWo]; exact M7k.out
            rw [← hWo] at mB OK ⊢
            clear hWo H8k M7k HSw
            have z0 := H8o.out.c0
            have fz0 := H8o.out.frozen 0
            have z1 := H8o.out.c1
            have fz1 := H8o.out.frozen 1
            have z2 := H8o.out.c2
            have fz2 := H8o.out.frozen 2
            have z3 := H8o.out.c3
            have fz3 := H8o.out.frozen 3
            have mC := Lib.hid (H8o.out.put4 (lessB L D))
            refine wpAnyM_one (i := 11) (by kernel_rfl) rfl (fun K hK => ?_)
            go_simp
            refine hK.out _ _ (fun h => absurd h (by decide)) (fun _ => ?_)
            clear hK K
            try simp only [Act.put, List.setIfInBounds_toArray, List.set_cons_zero, List.set_cons_succ]
            refine wpAnyM_done (by kernel_rfl) ?_ _
            refine calm_normal ?_
            clear z0 fz0 z1 fz1 z2 fz2 z3 fz3
            gi_wp2
            have P4 := only_put4 (S := fun k => k = wx.heap.size + 1) (Only.refl _ Wo) (g := wx.heap.size + 1) rfl (.int .u64 (maskW (lessB L D) 0)) (.int .u64 (maskW (lessB L D) 1)) (.int .u64 (maskW (lessB L D) 2)) (.int .u64 (maskW (lessB L D) 3)) 0
            refine ⟨?_, rfl, lessB L D, (orB W0 D), W1, fun hk => ?_, ?_, mC.out, mB.out.only P4 (by omega), HMo.out.only P4 (by omega)⟩
            · have q1 := Bi.out.size
              have q2 := OWg.out.size
              exact ((((OWg.out.trans (Only.of_below Bi.out)).mono fun k hk => hk.imp .inl id).trans (OK.out.mono fun k hk => by omega))).trans (P4.mono fun k hk => .inl (.inr (.inr hk)))
            · obtain ⟨st, hst⟩ := HH.out (HPX.out hk)
              have hg := HG.out
              have hs := HSI.out.zero hg.rows.inG (fun v hv => HL.out.own v (by rw [← hg.len]; exact hv)) hst
              have hd := HDD.out
              rw [← hd]
              exact hs
            · obtain ⟨v, hv⟩ := HZNE.out
              have hLv := HZL.out v hv
              have hvn := HLn.out v hLv
              have hg := HG.out
              have ha : attrB zss O ((0 : Nat) : Int) L Z v = true := (attr_fix hg.rows.inG (by rw [hg.len]; exact hvn)).2 ⟨hLv, .inl hv⟩
              rw [HDD.out] at ha
              exact marked_less (n := 256) (fun u _ hu => (lessB_iff.1 hu).1) (v := v) (by omega) hLv (not_true fun hh => by
                have := (lessB_iff.1 hh).2
                rw [ha] at this
                cases this)
          · skip
            gi_wp2
            obtain ⟨Wz, hWz⟩ : ∃ y, y = Wg.alloc (maskO Z) := ⟨_, rfl⟩
            rw [← hWz]
            have Bz : Hid (Below Wg.heap.size Wg Wz) := by rw [hWz]; exact below1 _ _
            clear hWz
            have OZ : Hid (Only (fun k => k = kb ∨ w.heap.size ≤ k) w Wz) := OG.out.trans (Only.of_below Bz.out)
            refine ⟨trivial, ?_⟩
            refine (CallsIn.inRound l (callsIn_wide.2 (attract_is (i := 1) (HEnv.out _ OZ.out).1 (HEnv.out _ OZ.out).2 HG.out (by omega) HLn.out HZL.out))).mono ?_
            rintro e Wh ⟨rfl, hb⟩
            have Bh := Lib.hid (Bz.out.trans (hb.mono Bz.out.size))
            have HSh2 : Hid (Wg.heap.size ≤ Wh.heap.size) := Bh.out.size
            clear hb v0 v1 v2 v3 v4 v5 v6
            have ht : ∃ D, attrB zss O ((1 : Nat) : Int) L Z = D := ⟨_, rfl⟩
            obtain ⟨D, hD⟩ := ht
            have HDD := Lib.hid hD
            rw [hD]
            clear hD
            gi_wp2
            obtain ⟨Wi, hWi⟩ : ∃ y, y = Wh.alloc (maskO D) := ⟨_, rfl⟩
            rw [← hWi]
            have Bi : Hid (Below Wg.heap.size Wg Wi) := by rw [hWi]; exact Bh.out.trans ((below1 _ _).mono HSh2.out)
            have H15 : Hid (MaskAt Wi Wh.heap.size D) := by rw [hWi]; exact MaskAt.new _ _
            clear hWi
            have H8i := Lib.hid (H8g.out.below Bi.out)
            have H7i := Lib.hid (H7g.out.below Bi.out)
            have HMi := Lib.hid (HMg.out.below Bi.out)
            have hsg := HSg.out
            have hsh := HSh2.out
            have HSw : Hid (∀ W', Only (fun k => k = wx.heap.size ∨ Wi.heap.size ≤ k) Wi W' → W'.cell? ⟨wx.heap.size + 1, 0, none⟩ = some (.int .u64 (maskW L 0)) ∧ W'.cell? ⟨wx.heap.size + 1, 1, none⟩ = some (.int .u64 (maskW L 1)) ∧ W'.cell? ⟨wx.heap.size + 1, 2, none⟩ = some (.int .u64 (maskW L 2)) ∧ W'.cell? ⟨wx.heap.size + 1, 3, none⟩ = some (.int .u64 (maskW L 3)) ∧ W'.cell? ⟨Wh.heap.size, 0, none⟩ = some (.int .u64 (maskW D 0)) ∧ W'.cell? ⟨Wh.heap.size, 1, none⟩ = some (.int .u64 (maskW D 1)) ∧ W'.cell? ⟨Wh.heap.size, 2, none⟩ = some (.int .u64 (maskW D 2)) ∧ W'.cell? ⟨Wh.heap.size, 3, none⟩ = some (.int .u64 (maskW D 3))) := fun W' ho => by
              have m1 := H8i.out.only ho (by have := H8i.out.lt; omega)
              have m2 := H15.out.only ho (by have := H15.out.lt; omega)
              exact ⟨m1.c0, m1.c1, m1.c2, m1.c3, m2.c0, m2.c1, m2.c2, m2.c3⟩
            have Kd : Hid (Below Wi.heap.size Wi Wi.drew) := (Below.refl _ _).drew
            have o0 := H7i.out.c4
            have o1 := H7i.out.c5
            have o2 := H7i.out.c6
            have o3 := H7i.out.c7
            gi_wp2
            refine wpIn_region_M (S := (fun W' => W'.cell? ⟨wx.heap.size + 1, 0, none⟩ = some (.int .u64 (maskW L 0)) ∧ W'.cell? ⟨wx.heap.size + 1, 1, none⟩ = some (.int .u64 (maskW L 1)) ∧ W'.cell? ⟨wx.heap.size + 1, 2, none⟩ = some (.int .u64 (maskW L 2)) ∧ W'.cell? ⟨wx.heap.size + 1, 3, none⟩ = some (.int .u64 (maskW L 3)) ∧ W'.cell? ⟨Wh.heap.size, 0, none⟩ = some (.int .u64 (maskW D 0)) ∧ W'.cell? ⟨Wh.heap.size, 1, none⟩ = some (.int .u64 (maskW D 1)) ∧ W'.cell? ⟨Wh.heap.size, 2, none⟩ = some (.int .u64 (maskW D 2)) ∧ W'.cell? ⟨Wh.heap.size, 3, none⟩ = some (.int .u64 (maskW D 3)))) (m := 11) (by kernel_rfl) (by kernel_rfl) (HSw.out _ (Only.of_below Kd.out)) (fun hHeld => ?_)
            refine wpAnyM_take (i := 0) (v := ?vm23) rfl (by kernel_rfl) (by decide) (by kernel_rfl) (by kernel_rfl) (by kernel_rfl) (fun _ _ _ h => h) (Or.inl ⟨by rfl, ?hm23⟩) (by assumption) ?_
            case hm23 => (intro w hSw; (try dsimp only at hSw); go_simp; first | done | with_reducible rfl)
            try simp only [Act.put, List.setIfInBounds_toArray, List.set_cons_zero, List.set_cons_succ]
            refine wpAnyM_take (i := 1) (v := ?vm24) rfl (by kernel_rfl) (by decide) (by kernel_rfl) (by kernel_rfl) (by kernel_rfl) (fun _ _ _ h => h) (Or.inl ⟨by rfl, ?hm24⟩) (by assumption) ?_
            case hm24 => (intro w hSw; (try dsimp only at hSw); go_simp; first | done | with_reducible rfl)
            try simp only [Act.put, List.setIfInBounds_toArray, List.set_cons_zero, List.set_cons_succ]
            refine wpAnyM_take (i := 2) (v := ?vm25) rfl (by kernel_rfl) (by decide) (by kernel_rfl) (by kernel_rfl) (by kernel_rfl) (fun _ _ _ h => h) (Or.inl ⟨by rfl, ?hm25⟩) (by assumption) ?_
            case hm25 => (intro w hSw; (try dsimp only at hSw); go_simp; first | done | with_reducible rfl)
            try simp only [Act.put, List.setIfInBounds_toArray, List.set_cons_zero, List.set_cons_succ]
            refine wpAnyM_take (i := 4) (v := ?vm26) rfl (by kernel_rfl) (by decide) (by kernel_rfl) (by kernel_rfl) (by kernel_rfl) (fun _ _ _ h => h) (Or.inl ⟨by rfl, ?hm26⟩) (by assumption) ?_
            case hm26 => (intro w hSw; (try dsimp only at hSw); go_simp; first | done | with_reducible rfl)
            try simp only [Act.put, List.setIfInBounds_toArray, List.set_cons_zero, List.set_cons_succ]
            refine wpAnyM_take (i := 6) (v := ?vm27) rfl (by kernel_rfl) (by decide) (by kernel_rfl) (by kernel_rfl) (by kernel_rfl) (fun _ _ _ h => h) (Or.inl ⟨by rfl, ?hm27⟩) (by assumption) ?_
            case hm27 => (intro w hSw; (try dsimp only at hSw); go_simp; first | done | with_reducible rfl)
            try simp only [Act.put, List.setIfInBounds_toArray, List.set_cons_zero, List.set_cons_succ]
            refine wpAnyM_take (i := 7) (v := ?vm28) rfl (by kernel_rfl) (by decide) (by kernel_rfl) (by kernel_rfl) (by kernel_rfl) (fun _ _ _ h => h) (Or.inl ⟨by rfl, ?hm28⟩) (by assumption) ?_
            case hm28 => (intro w hSw; (try dsimp only at hSw); go_simp; first | done | with_reducible rfl)
            try simp only [Act.put, List.setIfInBounds_toArray, List.set_cons_zero, List.set_cons_succ]
            refine wpAnyM_one (i := 3) (by kernel_rfl) rfl (fun K hK => ?_)
            go_simp
            refine hK.out _ _ (fun _ => HSw.out _ (Only.of_below Kd.out)) (fun hHeld => ?_)
            have hHeld := hHeld (by decide)
            clear hK K
            try simp only [Act.put, List.setIfInBounds_toArray, List.set_cons_zero, List.set_cons_succ]
            clear o0 o1 o2 o3
            refine wpAnyM_one (i := 5) (by kernel_rfl) rfl (fun K hK => ?_)
            go_simp
            go_at_call 107
            refine (mask_with _ _).mono ?_
            rintro e Wj ⟨rfl, hb⟩
            have Kj := Lib.hid (Kd.out.trans (hb.mono Kd.out.size))
            clear hb
            go_wp2_with fail
            refine hK.out _ _ (fun _ => HSw.out _ (Only.of_below Kj.out)) (fun hHeld => ?_)
            have hHeld := hHeld (by decide)
            clear hK K
            try simp only [Act.put, List.setIfInBounds_toArray, List.set_cons_zero, List.set_cons_succ]
            refine wpAnyM_take (i := 9) (v := ?vm29) rfl (by kernel_rfl) (by decide) (by kernel_rfl) (by kernel_rfl) (by kernel_rfl) (fun _ _ _ h => h) (Or.inl ⟨by rfl, ?hm29⟩) (by assumption) ?_
            case hm29 => (intro w hSw; (try dsimp only at hSw); go_simp; first | done | with_reducible rfl)
            try simp only [Act.put, List.setIfInBounds_toArray, List.set_cons_zero, List.set_cons_succ]
            refine wpAnyM_one (i := 8) (by kernel_rfl) rfl (fun K hK => ?_)
            go_simp
            go_at_call 136
            refine (mask_less _ _).mono ?_
            rintro e Wk ⟨rfl, hb⟩
            have Kk := Lib.hid (Kj.out.trans (hb.mono Kj.out.size))
            clear hb
            go_wp2_with fail
            refine hK.out _ _ (fun _ => HSw.out _ (Only.of_below Kk.out)) (fun hHeld => ?_)
            have hHeld := hHeld (by decide)
            clear hK K
            try simp only [Act.put, List.setIfInBounds_toArray, List.set_cons_zero, List.set_cons_succ]
            have mA := H7i.out.below Kk.out
            have z0 := mA.c4
            have fz0 := mA.frozen 4
            have z1 := mA.c5
            have fz1 := mA.frozen 5
            have z2 := mA.c6
            have fz2 := mA.frozen 6
            have z3 := mA.c7
            have fz3 := mA.frozen 7
            have mB := Lib.hid (mA.put1 (orB W1 D))
            have OK : Hid (Only (fun k => k = wx.heap.size ∨ Wi.heap.size ≤ k) Wi ((((Wk.setCell ⟨wx.heap.size, 4, none⟩ (.int .u64 (maskW (orB W1 D) 0))).setCell ⟨wx.heap.size, 5, none⟩ (.int .u64 (maskW (orB W1 D) 1))).setCell ⟨wx.heap.size, 6, none⟩ (.int .u64 (maskW (orB W1 D) 2))).setCell ⟨wx.heap.size, 7, none⟩ (.int .u64 (maskW (orB W1 D) 3)))) := only_put4 (S := fun k => k = wx.heap.size ∨ Wi.heap.size ≤ k) (Only.of_below Kk.out |>.mono fun k hk => by exact hk) (.inl rfl) (.int .u64 (maskW (orB W1 D) 0)) (.int .u64 (maskW (orB W1 D) 1)) (.int .u64 (maskW (orB W1 D) 2)) (.int .u64 (maskW (orB W1 D) 3)) 4
            clear mA hHeld
            refine wpAnyM_one (i := 10) (by kernel_rfl) rfl (fun K hK => ?_)
            go_simp
            refine hK.out _ _ (fun _ => HSw.out _ OK.out) (fun hHeld => ?_)
            have hHeld := hHeld (by decide)
            clear hK K
            try simp only [Act.put, List.setIfInBounds_toArray, List.set_cons_zero, List.set_cons_succ]
            clear hHeld z0 fz0 z1 fz1 z2 fz2 z3 fz3
            have H8k := Lib.hid ((H8i.out.below Kk.out).only (only_put4 (S := fun k => k = wx.heap.size) (Only.refl _ Wk) (g := wx.heap.size) rfl (.int .u64 (maskW (orB W1 D) 0)) (.int .u64 (maskW (orB W1 D) 1)) (.int .u64 (maskW (orB W1 D) 2)) (.int .u64 (maskW (orB W1 D) 3)) 4) (by omega))
            have M7k := Lib.hid ((HMi.out.below Kk.out).only (only_put4 (S := fun k => k = wx.heap.size) (Only.refl _ Wk) (g := wx.heap.size) rfl (.int .u64 (maskW (orB W1 D) 0)) (.int .u64 (maskW (orB W1 D) 1)) (.int .u64 (maskW (orB W1 D) 2)) (.int .u64 (maskW (orB W1 D) 3)) 4) (by omega))
            obtain ⟨Wo, hWo⟩ : ∃ y, y = ((((Wk.setCell ⟨wx.heap.size, 4, none⟩ (.int .u64 (maskW (orB W1 D) 0))).setCell ⟨wx.heap.size, 5, none⟩ (.int .u64 (maskW (orB W1 D) 1))).setCell ⟨wx.heap.size, 6, none⟩ (.int .u64 (maskW (orB W1 D) 2))).setCell ⟨wx.heap.size, 7, none⟩ (.int .u64 (maskW (orB W1 D) 3))) := ⟨_, rfl⟩
            have H8o : Hid (MaskAt Wo (wx.heap.size + 1) L) := by rw [hWo]; exact H8k.out
            have HMo : Hid (MemoAt Wo kb (OutQ zss O p)) := by rw [hWo]; exact M7k.out
            rw [← hWo] at mB OK ⊢
            clear hWo H8k M7k HSw
            have z0 := H8o.out.c0
            have fz0 := H8o.out.frozen 0
            have z1 := H8o.out.c1
            have fz1 := H8o.out.frozen 1
            have z2 := H8o.out.c2
            have fz2 := H8o.out.frozen 2
            have z3 := H8o.out.c3
            have fz3 := H8o.out.frozen 3
            have mC := Lib.hid (H8o.out.put4 (lessB L D))
            refine wpAnyM_one (i := 11) (by kernel_rfl) rfl (fun K hK => ?_)
            go_simp
            refine hK.out _ _ (fun h => absurd h (by decide)) (fun _ => ?_)
            clear hK K
            try simp only [Act.put, List.setIfInBounds_toArray, List.set_cons_zero, List.set_cons_succ]
            refine wpAnyM_done (by kernel_rfl) ?_ _
            refine calm_normal ?_
            clear z0 fz0 z1 fz1 z2 fz2 z3 fz3
            gi_wp2
            have P4 := only_put4 (S := fun k => k = wx.heap.size + 1) (Only.refl _ Wo) (g := wx.heap.size + 1) rfl (.int .u64 (maskW (lessB L D) 0)) (.int .u64 (maskW (lessB L D) 1)) (.int .u64 (maskW (lessB L D) 2)) (.int .u64 (maskW (lessB L D) 3)) 0
            refine ⟨?_, rfl, lessB L D, W0, (orB W1 D), fun hk => ?_, ?_, mC.out, mB.out.only P4 (by omega), HMo.out.only P4 (by omega)⟩
            · have q1 := Bi.out.size
              have q2 := OWg.out.size
              exact ((((OWg.out.trans (Only.of_below Bi.out)).mono fun k hk => hk.imp .inl id).trans (OK.out.mono fun k hk => by omega))).trans (P4.mono fun k hk => .inl (.inr (.inr hk)))
            · obtain ⟨st, hst⟩ := HH.out (HPX.out hk)
              have hg := HG.out
              have hs := HSI.out.one hg.rows.inG (fun v hv => HL.out.own v (by rw [← hg.len]; exact hv)) hst
              have hd := HDD.out
              rw [← hd]
              exact hs
            · obtain ⟨v, hv⟩ := HZNE.out
              have hLv := HZL.out v hv
              have hvn := HLn.out v hLv
              have hg := HG.out
              have ha : attrB zss O ((1 : Nat) : Int) L Z v = true := (attr_fix hg.rows.inG (by rw [hg.len]; exact hvn)).2 ⟨hLv, .inl hv⟩
              rw [HDD.out] at ha
              exact marked_less (n := 256) (fun u _ hu => (lessB_iff.1 hu).1) (v := v) (by omega) hLv (not_true fun hh => by
                have := (lessB_iff.1 hh).2
                rw [ha] at this
                cases this)
      case done =>
        intro D W hD hR hO hK
        obtain ⟨v, hv⟩ := HSNE.out
        have hvn := HSn.out v hv
        have hpv := HL.out.pos v hvn
        obtain ⟨q, hq⟩ : ∃ q : Nat, p v = (q : Int) := ⟨(p v).toNat, by omega⟩
        have hq41 : q < 41 := by omega
        exact absurd hq (hR.1 ⟨q, hq41⟩ (by unfold backK; simp) v hv)
      case stop =>
        rintro D c pre W hD hpre ⟨rfl, L', X0, X1, h1, h2, h3, h4, h5⟩ hO hK
        replace h1 := h1 hpre
        clear hpre
        have hmk : ∀ k, (k = kb ∨ k = wx.heap.size ∨ k = wx.heap.size + 1) ∨ w2.heap.size ≤ k → k < w2.heap.size → w2.heap[k]? ≠ some (.deferred (some [])) := fun k hk hkl => by
          rcases hk with (rfl | rfl | rfl) | hk
          · obtain ⟨es, c, hh, _⟩ := HMd.out
            rw [hh]; simp
          · exact not_mark H7d.out rfl
          · exact not_mark H8d.out rfl
          · omega
        have HMK7 : Hid (MarksAt W wl.heap.size ds) := HMKd.out.only hO hmk
        have HMK8 : Hid (MarksAt W wl.heap.size ({ target := .collected D, args := #[] } :: ds)) := ⟨⟨D, rfl, by omega, hK, HMKd.out.fresh fun d hd => by
          obtain ⟨E', e1, e2⟩ := HMKd.out.lt d hd
          exact ⟨E', e1, by omega⟩⟩, HMK7.out⟩
        have O9 : Hid (Only (fun k => k = kb ∨ wx.heap.size ≤ k) wl W) := OLd.out.trans (hO.mono fun k hk => by omega)
        have q1 := Lib.hid h1
        have q3 := Lib.hid h3
        have q4 := Lib.hid h4
        have q5 := Lib.hid h5
        have q2 := Lib.hid h2
        clear h1 h2 h3 h4 h5 hO hK hmk
        go_wp2
        go_roundg (markedK L' 256).length
        case measure => rw [hgk]; exact q2.out
        case rel => exact ⟨L', X0, X1, rfl, q1.out, q3.out, q4.out, q5.out, O9.out, HMK8.out⟩
end
end Go.Proofs.YtphkgnpkcfbnkabDoor
