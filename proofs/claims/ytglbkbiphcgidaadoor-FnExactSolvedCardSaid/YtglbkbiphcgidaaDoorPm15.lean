import Derived.Deep.LoopGhost
import Derived.Scope
import Derived.Deep.DeepCutAuto
import Derived.Laws.Tables
import Derived.Laws.Rows
import Derived.Test.YtglbkbiphcgidaaDoorPm14
namespace Go.Proofs.YtglbkbiphcgidaaDoor
section
open Go.RowKit Go.Shelf
attribute [local go_sem] Oper.semAt_some
structure Pn (n : Nat) (p : Nat → Int) (O : List Int) (Lv : Nat → Nat → Bool) : Prop where
 is : ∀ q, q < 41 → ∀ v, Lv q v = true ↔ v < n ∧ p v = (q : Int)
 pos : ∀ v, v < n → 0 ≤ p v ∧ p v ≤ 40
 own : ∀ v, v < n → nth O v = 0 ∨ nth O v = 1
section
variable {w w' : World} {g : Nat} {I J : Nat → Bool}
theorem cZ.lt (h : cZ w g I J) : g < w.heap.size := (Array.getElem?_eq_some_iff.1 h).1
theorem cZ.only {S : Nat → Prop} (h : cZ w g I J) (hk : Only S w w') (hs : ¬ S g) : cZ w' g I J := (hk.block g h.lt hs).trans h
theorem cZ.below (h : cZ w g I J) (hb : Below w.heap.size w w') : cZ w' g I J := (hb.block g h.lt).trans h
theorem cZ.c0 (h : cZ w g I J) : w.cell? ⟨g, 0, none⟩ = some (.int .u64 (aj I 0)) := by unfold cZ at h; simp [World.cell?, h]
theorem cZ.c1 (h : cZ w g I J) : w.cell? ⟨g, 1, none⟩ = some (.int .u64 (aj I 1)) := by unfold cZ at h; simp [World.cell?, h]
theorem cZ.c2 (h : cZ w g I J) : w.cell? ⟨g, 2, none⟩ = some (.int .u64 (aj I 2)) := by unfold cZ at h; simp [World.cell?, h]
theorem cZ.c3 (h : cZ w g I J) : w.cell? ⟨g, 3, none⟩ = some (.int .u64 (aj I 3)) := by unfold cZ at h; simp [World.cell?, h]
theorem cZ.c4 (h : cZ w g I J) : w.cell? ⟨g, 4, none⟩ = some (.int .u64 (aj J 0)) := by unfold cZ at h; simp [World.cell?, h]
theorem cZ.c5 (h : cZ w g I J) : w.cell? ⟨g, 5, none⟩ = some (.int .u64 (aj J 1)) := by unfold cZ at h; simp [World.cell?, h]
theorem cZ.c6 (h : cZ w g I J) : w.cell? ⟨g, 6, none⟩ = some (.int .u64 (aj J 2)) := by unfold cZ at h; simp [World.cell?, h]
theorem cZ.c7 (h : cZ w g I J) : w.cell? ⟨g, 7, none⟩ = some (.int .u64 (aj J 3)) := by unfold cZ at h; simp [World.cell?, h]
theorem cZ.frozen (h : cZ w g I J) (k : Nat) : w.frozen? ⟨g, k, none⟩ = false := by unfold cZ at h; simp [World.frozen?, h]
end
theorem cZ.new (w : World) (I J : Nat → Bool) : cZ (w.alloc (.cells #[.int .u64 (aj I 0), .int .u64 (aj I 1), .int .u64 (aj I 2), .int .u64 (aj I 3), .int .u64 (aj J 0), .int .u64 (aj J 1), .int .u64 (aj J 2), .int .u64 (aj J 3)] 71)) w.heap.size I J := heap_alloc_new w _
theorem Vr {w : World} (I J : Nat → Bool) (g : Nat) (hg : w.heap.size = g) : cZ (w.alloc (.cells #[.int .u64 (aj I 0), .int .u64 (aj I 1), .int .u64 (aj I 2), .int .u64 (aj I 3), .int .u64 (aj J 0), .int .u64 (aj J 1), .int .u64 (aj J 2), .int .u64 (aj J 3)] 71)) g I J := by rw [← hg]; exact cZ.new w I J
theorem Vs : (.cells #[.int .u64 0, .int .u64 0, .int .u64 0, .int .u64 0, .int .u64 0, .int .u64 0, .int .u64 0, .int .u64 0] 71 : Obj) = .cells #[.int .u64 (aj (fun _ => false) 0), .int .u64 (aj (fun _ => false) 1), .int .u64 (aj (fun _ => false) 2), .int .u64 (aj (fun _ => false) 3), .int .u64 (aj (fun _ => false) 0), .int .u64 (aj (fun _ => false) 1), .int .u64 (aj (fun _ => false) 2), .int .u64 (aj (fun _ => false) 3)] 71 := by
 rw [jG, jG, jG, jG]; rfl
abbrev kZ (I J : Nat → Bool) : Array Value := #[.int .u64 (aj I 0), .int .u64 (aj I 1), .int .u64 (aj I 2), .int .u64 (aj I 3), .int .u64 (aj J 0), .int .u64 (aj J 1), .int .u64 (aj J 2), .int .u64 (aj J 3)]
theorem cZ.Vt {I J : Nat → Bool} {w : World} {g : Nat} (I' J' : Nat → Bool) (h : cZ w g I J) : cZ (w.setRow g (kZ I' J')) g I' J' := setRow_heap _ _ _ _ _ _ h
theorem GX {S : Nat → Prop} {a w : World} {g : Nat} (h : Only S a w) (hg : S g) (cs : Array Value) : Only S a (w.setRow g cs) :=
 h.trans ⟨rfl, rfl, rfl, by simp [World.setRow], fun k _ hk => by
  have hne : g ≠ k := fun e => hk (by rw [← e]; exact hg)
  simp [World.setRow, Array.getElem?_modify, hne]⟩
theorem BP {w : World} {g : Nat} {c : Array Value} {t : TypeId} {fr : Nat × Nat} (h : w.heap[g]? = some (.cells c t fr)) (i : Nat) (v : Value) : (w.setCell ⟨g, i, none⟩ v).heap[g]? = some (.cells (c.setIfInBounds i v) t fr) := by
 obtain ⟨hl, he⟩ := Array.getElem?_eq_some_iff.1 h
 simp [World.setCell, hl, Array.getElem_modify, he]
theorem cZ.ahI {I J : Nat → Bool} {w : World} {g : Nat} (h : cZ w g I J) (K : Nat → Bool) : cZ ((((w.setCell ⟨g, 0, none⟩ (.int .u64 (aj K 0))).setCell ⟨g, 1, none⟩ (.int .u64 (aj K 1))).setCell ⟨g, 2, none⟩ (.int .u64 (aj K 2))).setCell ⟨g, 3, none⟩ (.int .u64 (aj K 3))) g K J := by
 unfold cZ at h ⊢
 have h4 := BP (BP (BP (BP h 0 (.int .u64 (aj K 0))) 1 (.int .u64 (aj K 1))) 2 (.int .u64 (aj K 2))) 3 (.int .u64 (aj K 3))
 simpa using h4
theorem cZ.ahJ {I J : Nat → Bool} {w : World} {g : Nat} (h : cZ w g I J) (K : Nat → Bool) : cZ ((((w.setCell ⟨g, 4, none⟩ (.int .u64 (aj K 0))).setCell ⟨g, 5, none⟩ (.int .u64 (aj K 1))).setCell ⟨g, 6, none⟩ (.int .u64 (aj K 2))).setCell ⟨g, 7, none⟩ (.int .u64 (aj K 3))) g I K := by
 unfold cZ at h ⊢
 have h4 := BP (BP (BP (BP h 4 (.int .u64 (aj K 0))) 5 (.int .u64 (aj K 1))) 6 (.int .u64 (aj K 2))) 7 (.int .u64 (aj K 3))
 simpa using h4
theorem Vu {fn : Func} {p : Tmp} {tmps : Array Value} {g B : Nat} {I J : Nat → Bool} {R : Ending → World → Prop} (hr : fn.results = #[.cell p 71]) (hp : tmps.getD p undef = .pointer (some ⟨g, 0, none⟩)) : ∀ {ds : List Deferred} {W : World},
 cZ W g I J → fQ W B ds → (∀ W', Only (fun k => B ≤ k ∧ k ≠ g) W W' → R (.returned (jc I J)) W') → bodyPostM Fence.wide 4 Tryd.prog fn R .ret { tmps := tmps, defers := ds } W
 | [], W, hM, _, hR => by
   exact ⟨_, results_cell_row hr tmps _ g _ _ _ (.array 2 69) hp hM (by kernel_rfl) rfl (by kernel_rfl), hR W (Only.refl _ _)⟩
 | d :: ds, W, hM, hK, hR => by
   obtain ⟨⟨D, hd, hB, hD, hne⟩, ht⟩ := hK
   subst hd
   have MH : D ≠ g := fun e => by
    unfold cZ at hM
    rw [← e, hD] at hM
    cases hM
   have ho : Only (fun k => B ≤ k ∧ k ≠ g) W (W.putObj D (.deferred none)) := (Only.dV (grownBy_putObj' W D _)).mono fun k hk => by cases hk; exact ⟨hB, MH⟩
   have hod : Only (fun k => k = D) W (W.putObj D (.deferred none)) := (Only.dV (grownBy_putObj' W D _)).mono fun k hk => by cases hk; rfl
   have ht2 : ∀ {es : List Deferred}, fQ W B es → (∀ d' ∈ es, d' ≠ { target := .collected D, args := #[] }) → fQ (W.putObj D (.deferred none)) B es := fun {es} => by
    induction es with
    | nil => intro _ _; trivial
    | cons x es ih =>
      intro h hn
      obtain ⟨⟨E, hx, Jz, hE, hnx⟩, h2⟩ := h
      have JA : E ≠ D := fun e => hn x (by simp) (by rw [hx, e])
      exact ⟨⟨E, hx, Jz, (hod.block E (Array.getElem?_eq_some_iff.1 hE).1 JA).trans hE, hnx⟩, ih h2 fun d' hd' => hn d' (by simp [hd'])⟩
   have rest := Vu (R := R) (g := g) (B := B) hr hp (ds := ds) (W := W.putObj D (.deferred none)) (hM.only ho fun h => h.2 rfl) (ht2 ht hne) fun W' hW => hR W' (ho.trans hW)
   exact ⟨by simp, .inl ⟨_, _, rfl, run_takeDeferred hD, rest⟩⟩
set_option linter.unusedSimpArgs false in
set_option maxRecDepth 100000 in
set_option maxHeartbeats 16000000 in
theorem ahK {b n nb pb kb : Nat} {Ow Lv E Pd : Nat → Nat → Bool} {ah : List (List Int)} {O : List Int} {p : Nat → Int} {I : Nat → Bool} (hG : jC ah O n Ow E Pd) (hL : Pn n p O Lv) (hI : ∀ v, I v = true → v < n) (ht : fE ah I)
 (ih : ∀ J, (aU J 256).length < (aU I 256).length → (∀ v, J v = true → v < n) → fE ah J → BL ah O p b n nb pb kb Ow Lv E Pd J) : BL ah O p b n nb pb kb Ow Lv E Pd I := by
 intro w hT hR hM
 have hkt := JH hM hT
 have HG := Lib.hid hG
 have HL := Lib.hid hL
 have HI := Lib.hid hI
 have HTI := Lib.hid ht
 have HIH := Lib.hid ih
 have HM := Lib.hid hM
 have qj : Hid (kb < w.heap.size) := hM.lt
 have hn := hR.small
 have abq : Hid (∀ v, I v = true → v < 256) := fun v hv => by have := hI v hv; omega
 have eU : Hid (∀ W', Only (fun k => k = kb ∨ w.heap.size ≤ k) w W' → dS W' ∧ dX W' b n nb pb kb Ow Lv E Pd) := fun W' ho =>
  ⟨hT.only ho (by have := hT.lt; omega), hR.only ho (by have := hR.lt; have := hR.apart; omega) (by have := hR.lt; have := hR.apart; omega) (by have := hR.lt; have := hR.apart; omega)⟩
 clear hT hR hG hL hI ht ih hM hkt
 refine (callsIn_wide (n := 4)).1 ?_
 refine callsIn_of_wp_marks Tryd.func102 rfl trivial ?_ rfl
 simp only [Tryd.ntmps102, List.size_toArray, List.length_cons, List.length_nil, Nat.reduceAdd, Nat.reduceSub, Array.replicate_succ, Array.replicate_zero, List.push_toArray, List.append_toArray, List.nil_append, List.cons_append]
 refine wpIn_wide.2 ?_
 go_wp2_with fail
 obtain ⟨w1, hw1⟩ : ∃ y, y = (((w.alloc (.cells #[.pointer (some ⟨b, 0, none⟩)] 76)).alloc (.cells #[.int .u64 (aj I 0), .int .u64 (aj I 1), .int .u64 (aj I 2), .int .u64 (aj I 3)] 69)).alloc (.cells #[.int .u64 0, .int .u64 0, .int .u64 0, .int .u64 0, .int .u64 0, .int .u64 0, .int .u64 0, .int .u64 0] 71)) := ⟨_, rfl⟩
 rw [← hw1]
 have HB : Hid (Below w.heap.size w w1) := by
  rw [hw1]
  exact (((Below.refl _ _).alloc (Nat.le_refl _) _).alloc (by simp) _).alloc (by simp; omega) _
 have bP : Hid (Boxed w1 (w.heap.size) 76 (.pointer (some ⟨b, 0, none⟩))) := by
  rw [hw1]; exact dh (dh (Boxed.new w 76 _) (aA _ _)) (aA _ _)
 have bI : Hid (aH w1 (w.heap.size + 1) I) := by
  rw [hw1]; exact (dP I _ (by simp)).below (aA _ _)
 have bR : Hid (cZ w1 (w.heap.size + 1 + 1) (fun _ => false) (fun _ => false)) := by
  rw [hw1, Vs]; exact Vr _ _ _ (by simp)
 have cO : Hid (w1.heap.size = w.heap.size + 3) := by rw [hw1]; simp [Hid]
 clear hw1
 have gq := Lib.hid (HM.out.below HB.out)
 obtain ⟨X, Y, r, FO, qZ⟩ : ∃ (X Y : Nat → Bool) (r : Bool), Hid (∀ w', Below w1.heap.size w1 w' → (Instr.lookup 126 (.map (some kb)) (aW I) true).run Tryd.prog w' = .ok (.tuple #[jc X Y, .bool r]) w') ∧ Hid (r = true → X = dM ah O p I 0 ∧ Y = dM ah O p I 1) := by
  obtain ⟨u, r, h1, h2⟩ := ahf gq.out abq.out
  have hb : ∀ w', Below w1.heap.size w1 w' → w'.heap[kb]? = w1.heap[kb]? := fun w' h => h.block kb (by have := qj.out; have := cO.out; omega)
  rcases h2 with ⟨rfl, rfl⟩ | ⟨rfl, hq⟩
  · refine ⟨fun _ => false, fun _ => false, false, fun w' h => ?_, fun h => absurd h (by decide)⟩
    have h3 := h1 w' (hb w' h)
    unfold jc
    rw [jG, jG, jG, jG]
    exact h3
  · unfold gQ at hq
    subst hq
    exact ⟨_, _, true, fun w' h => h1 w' (hb w' h), fun _ => ⟨rfl, rfl⟩⟩
 have aC : Hid (∀ W', Below w1.heap.size w1 W' → W'.cell? ⟨w.heap.size, 0, none⟩ = some (.pointer (some ⟨b, 0, none⟩)) ∧ W'.cell? ⟨b, 174, none⟩ = some (.map (some kb)) ∧ (Instr.lookup 126 (.map (some kb)) (.agg #[.int .u64 (aj I 0), .int .u64 (aj I 1), .int .u64 (aj I 2), .int .u64 (aj I 3)]) true).run Tryd.prog W' = .ok (.tuple #[jc X Y, .bool r]) W' ∧ W'.cell? ⟨w.heap.size + 1, 0, none⟩ = some (.int .u64 (aj I 0)) ∧ W'.cell? ⟨w.heap.size + 1, 1, none⟩ = some (.int .u64 (aj I 1)) ∧ W'.cell? ⟨w.heap.size + 1, 2, none⟩ = some (.int .u64 (aj I 2)) ∧ W'.cell? ⟨w.heap.size + 1, 3, none⟩ = some (.int .u64 (aj I 3))) := fun W' hb => by
  have m1 := bI.out.below hb
  have m4 := dh bP.out hb
  have m5 := (eU.out _ ((Only.of_below HB.out |>.mono fun k hk => by exact hk).trans (Only.of_below hb))).2.known
  exact ⟨m4.cell, m5, FO.out _ hb, m1.c0, m1.c1, m1.c2, m1.c3⟩
 have Kd : Hid (Below w1.heap.size w1 w1.drew) := (Below.refl _ _).drew
 refine wp_scope_straight ?_
 go_wp2_with fail
 refine wp_cut (fun a' wx => ∃ (g5 : Nat) (u16 iT jJ kU u20 u21 u22 u23 u24 : Value), (w1.heap.size ≤ g5 ∧ Hid (cZ wx g5 X Y) ∧ Hid (Below w1.heap.size w1 wx)) ∧ a' = { tmps := #[.pointer (some ⟨b, 0, none⟩), aW I, .pointer (some ⟨w.heap.size, 0, none⟩), .pointer (some ⟨w.heap.size + 1, 0, none⟩), .pointer (some ⟨w.heap.size + 1 + 1, 0, none⟩), .pointer (some ⟨g5, 0, none⟩), .bool r, undef, undef, undef, undef, undef, undef, undef, undef, undef, u16, iT, jJ, kU, u20, u21, u22, u23, u24, undef, undef, undef, undef, undef, undef, undef, undef, undef, undef, undef, undef, undef, undef, undef, undef, undef, undef, undef, undef, undef, undef, undef, undef, undef, undef, undef, undef, undef, undef, undef, undef, undef, undef, undef, undef, undef, undef, undef, undef, undef, undef, undef, undef, undef, undef, undef, undef, undef, undef, undef], defers := [] }) ?DW ?DX
 case DW =>
  refine jB (S := (fun W' => W'.cell? ⟨w.heap.size, 0, none⟩ = some (.pointer (some ⟨b, 0, none⟩)) ∧ W'.cell? ⟨b, 174, none⟩ = some (.map (some kb)) ∧ (Instr.lookup 126 (.map (some kb)) (.agg #[.int .u64 (aj I 0), .int .u64 (aj I 1), .int .u64 (aj I 2), .int .u64 (aj I 3)]) true).run Tryd.prog W' = .ok (.tuple #[jc X Y, .bool r]) W' ∧ W'.cell? ⟨w.heap.size + 1, 0, none⟩ = some (.int .u64 (aj I 0)) ∧ W'.cell? ⟨w.heap.size + 1, 1, none⟩ = some (.int .u64 (aj I 1)) ∧ W'.cell? ⟨w.heap.size + 1, 2, none⟩ = some (.int .u64 (aj I 2)) ∧ W'.cell? ⟨w.heap.size + 1, 3, none⟩ = some (.int .u64 (aj I 3)))) (m := 12) (by kernel_rfl) (aC.out _ Kd.out) (fun hHd => ?_)
  refine aB (i := 0) (v := ?rW) rfl (by kernel_rfl) (by decide) (by kernel_rfl) (by kernel_rfl) (by kernel_rfl) (fun _ _ _ h => h) (Or.inl ⟨by rfl, ?hm1⟩) (by assumption) ?_
  case hm1 => (intro w hSw; (try dsimp only at hSw); go_simp; first | done | with_reducible rfl)
  try simp only [Act.put, g1, g2, g3]
  refine aB (i := 1) (v := ?rZ) rfl (by kernel_rfl) (by decide) (by kernel_rfl) (by kernel_rfl) (by kernel_rfl) (fun _ _ _ h => h) (Or.inl ⟨by rfl, ?hm2⟩) (by assumption) ?_
  case hm2 => (intro w hSw; (try dsimp only at hSw); go_simp; first | done | with_reducible rfl)
  try simp only [Act.put, g1, g2, g3]
  refine aB (i := 2) (v := ?su) rfl (by kernel_rfl) (by decide) (by kernel_rfl) (by kernel_rfl) (by kernel_rfl) (fun _ _ _ h => h) (Or.inl ⟨by rfl, ?iR⟩) (by assumption) ?_
  case iR => (intro w hSw; (try dsimp only at hSw); go_simp; first | done | with_reducible rfl)
  try simp only [Act.put, g1, g2, g3]
  refine aB (i := 3) (v := ?uF) rfl (by kernel_rfl) (by decide) (by kernel_rfl) (by kernel_rfl) (by kernel_rfl) (fun _ _ _ h => h) (Or.inl ⟨by rfl, ?hm4⟩) (by assumption) ?_
  case hm4 => (intro w hSw; (try dsimp only at hSw); go_simp; first | done | with_reducible rfl)
  try simp only [Act.put, g1, g2, g3]
  refine aB (i := 4) (v := ?wW) rfl (by kernel_rfl) (by decide) (by kernel_rfl) (by kernel_rfl) (by kernel_rfl) (fun _ _ _ h => h) (Or.inl ⟨by rfl, ?jQ⟩) (by assumption) ?_
  case jQ => (intro w hSw; (try dsimp only at hSw); go_simp; first | done | with_reducible rfl)
  try simp only [Act.put, g1, g2, g3]
  refine aB (i := 5) (v := ?yF) rfl (by kernel_rfl) (by decide) (by kernel_rfl) (by kernel_rfl) (by kernel_rfl) (fun _ _ _ h => h) (Or.inl ⟨by rfl, ?kV⟩) (by assumption) ?_
  case kV => (intro w hSw; (try dsimp only at hSw); go_simp; first | done | with_reducible rfl)
  try simp only [Act.put, g1, g2, g3]
  refine aB (i := 6) (v := ?AX) rfl (by kernel_rfl) (by decide) (by kernel_rfl) (by kernel_rfl) (by kernel_rfl) (fun _ _ _ h => h) (Or.inl ⟨by rfl, ?mV⟩) (by assumption) ?_
  case mV => (intro w hSw; (try dsimp only at hSw); go_simp; first | done | with_reducible rfl)
  try simp only [Act.put, g1, g2, g3]
  refine aB (i := 7) (v := ?AZ) rfl (by kernel_rfl) (by decide) (by kernel_rfl) (by kernel_rfl) (by kernel_rfl) (fun _ _ _ h => h) (Or.inl ⟨by rfl, ?mW⟩) (by assumption) ?_
  case mW => (intro w hSw; (try dsimp only at hSw); go_simp; first | done | with_reducible rfl)
  try simp only [Act.put, g1, g2, g3]
  refine aB (i := 8) (v := ?Bg) rfl (by kernel_rfl) (by decide) (by kernel_rfl) (by kernel_rfl) (by kernel_rfl) (fun _ _ _ h => h) (Or.inl ⟨by rfl, ?mX⟩) (by assumption) ?_
  case mX => (intro w hSw; (try dsimp only at hSw); go_simp; first | done | with_reducible rfl)
  try simp only [Act.put, g1, g2, g3]
  refine aG (i := 9) (by kernel_rfl) rfl (fun K hK => ?_)
  go_simp
  refine hK.out _ _ (fun _ => aC.out _ (aA w1 _).drew) (fun hHd => ?_)
  have hHd := hHd (by decide)
  clear hK K
  try simp only [Act.put, g1, g2, g3]
  refine aG (i := 10) (by kernel_rfl) rfl (fun K hK => ?_)
  go_simp
  refine hK.out _ _ (fun _ => aC.out _ (aA w1 _).drew) (fun hHd => ?_)
  have hHd := hHd (by decide)
  clear hK K
  try simp only [Act.put, g1, g2, g3]
  refine aG (i := 11) (by kernel_rfl) rfl (fun K hK => ?_)
  go_simp
  refine hK.out _ _ (fun _ => aC.out _ (aA w1 _).drew) (fun hHd => ?_)
  have hHd := hHd (by decide)
  clear hK K
  try simp only [Act.put, g1, g2, g3]
  refine dA (by kernel_rfl) ?_ _
  exact ⟨_, _, _, _, _, _, _, _, _, _, ⟨Nat.le_refl _, Vr (w := w1) _ _ _ rfl, (aA w1 _).drew⟩, rfl⟩
 case DX =>
 rintro a' wx ⟨g5, u16, iT, jJ, kU, u20, u21, u22, u23, u24, ⟨hg5, H5, Bx⟩, rfl⟩
 clear aC Kd FO
 have OX : Hid (Only (fun k => k = kb ∨ w.heap.size ≤ k) w wx) := (Only.of_below HB.out |>.mono fun k hk => by exact hk).trans (Only.of_below Bx.out)
 have bPx := Lib.hid (dh bP.out Bx.out)
 have Ea := Lib.hid (bI.out.below Bx.out)
 have xw := Lib.hid (bR.out.below Bx.out)
 have Vw := Lib.hid (gq.out.below Bx.out)
 have yG : Hid (w1.heap.size ≤ wx.heap.size) := Bx.out.size
 clear bP bI bR gq HM
 cases r with
 | true =>
   obtain ⟨hX, hY⟩ := qZ.out rfl
   clear qZ
   go_upto_region 3 with fail
   refine wp_region_lit ?_
   refine wpList_load_row rfl 71 _ rfl g5 rfl 71 (kZ X Y) (0, 0) (.array 2 69) H5.out (by kernel_rfl) rfl (by kernel_rfl) ?_
   simp only [Act.put, g1, g2, g3]
   refine wpList_store_row rfl 71 _ _ rfl (w.heap.size + 1 + 1) (kZ X Y) rfl rfl 71 (kZ (fun _ => false) (fun _ => false)) xw.out (by kernel_rfl) (by simp) (by simp [Value.oneCell']) ?_
   refine wpList_nil ?_
   try simp only [Act.put, g1, g2, g3]
   go_wp2_with fail
   refine Vu (g := w.heap.size + 1 + 1) (B := w.heap.size) rfl rfl (xw.out.Vt X Y) trivial fun W' ho => ⟨by rw [hX, hY], ?_, ?_⟩
   · exact (GX (S := fun k => k = kb ∨ w.heap.size ≤ k) OX.out (.inr (by omega)) _).trans (ho.mono fun k hk => .inr hk.1)
   · exact (Vw.out.only (GX (S := fun k => k = w.heap.size + 1 + 1) (Only.refl _ _) rfl _) (by have := qj.out; omega)).only ho fun hk => by have := qj.out; omega
 | false =>
 have c0 := Ea.out.c0
 have c1 := Ea.out.c1
 have c2 := Ea.out.c2
 have c3 := Ea.out.c3
 have l1 := Ea.out.lt
 clear qZ H5
 go_wp2_with fail
 obtain ⟨wl, hwl⟩ : ∃ y, y = ((wx.alloc (.cells #[.int .u64 0, .int .u64 0, .int .u64 0, .int .u64 0, .int .u64 0, .int .u64 0, .int .u64 0, .int .u64 0] 71)).alloc (.cells #[.int .u64 (aj I 0), .int .u64 (aj I 1), .int .u64 (aj I 2), .int .u64 (aj I 3)] 69)) := ⟨_, rfl⟩
 rw [← hwl]
 have Bl : Hid (Below wx.heap.size wx wl) := by rw [hwl]; exact below2 _ _ _
 have m7 : Hid (cZ wl wx.heap.size (fun _ => false) (fun _ => false)) := by rw [hwl, Vs]; exact (cZ.new wx _ _).below (aA _ _)
 have m8 : Hid (aH wl (wx.heap.size + 1) I) := by rw [hwl]; exact dP _ _ (by simp)
 have UH : Hid (wl.heap.size = wx.heap.size + 2) := by rw [hwl]; simp [Hid]
 clear hwl c0 c1 c2 c3 l1
 have bPl := Lib.hid (dh bPx.out Bl.out)
 have bIl := Lib.hid (Ea.out.below Bl.out)
 have bRl := Lib.hid (xw.out.below Bl.out)
 have HMl := Lib.hid (Vw.out.below Bl.out)
 have OL : Hid (Only (fun k => k = kb ∨ w.heap.size ≤ k) w wl) := OX.out.trans (Only.of_below Bl.out)
 clear bPx Ea xw Vw
 refine wp_label ?_
 go_wp2_with fail
 refine wp_loop_ghost_k (fun gk a' wr => ∃ (u9 u10 u11 u12 u13 u14 u15 u28 u29 u30 u31 u32 u33 u34 u35 u36 u37 u38 pM u40 pO u42 pR u44 u45 u46 pU u48 u49 pV u51 pW u53 mO u55 mP mQ u58 u59 u60 u61 JV u63 u64 JW u66 JX u68 : Value), ∃ (ds : List Deferred), (∃ (L W0 W1 : Nat → Bool), gk = (aU L 256).length ∧ Hid (qW ah O p I L W0 W1) ∧ Hid (aH wr (wx.heap.size + 1) L) ∧ Hid (cZ wr wx.heap.size W0 W1) ∧ Hid (dH wr kb (gQ ah O p)) ∧ Hid (Only (fun k => k = kb ∨ wx.heap.size ≤ k) wl wr) ∧ Hid (fQ wr wl.heap.size ds)) ∧ a' = { tmps := #[.pointer (some ⟨b, 0, none⟩), aW I, .pointer (some ⟨w.heap.size, 0, none⟩), .pointer (some ⟨w.heap.size + 1, 0, none⟩), .pointer (some ⟨w.heap.size + 1 + 1, 0, none⟩), .pointer (some ⟨g5, 0, none⟩), .bool false, .pointer (some ⟨wx.heap.size, 0, none⟩), .pointer (some ⟨wx.heap.size + 1, 0, none⟩), u9, u10, u11, u12, u13, u14, u15, u16, iT, jJ, kU, u20, u21, u22, u23, u24, .bool false, undef, .agg #[.int .u64 (aj I 0), .int .u64 (aj I 1), .int .u64 (aj I 2), .int .u64 (aj I 3)], u28, u29, u30, u31, u32, u33, u34, u35, u36, u37, u38, pM, u40, pO, u42, pR, u44, u45, u46, pU, u48, u49, pV, u51, pW, u53, mO, u55, mP, mQ, u58, u59, u60, u61, JV, u63, u64, JW, u66, JX, u68, undef, undef, undef, undef, undef, undef, undef], defers := ds }) (aU I 256).length ?start ?round
 case start => exact ⟨_, _, _, _, _, _, _, _, _, _, _, _, _, _, _, _, _, _, _, _, _, _, _, _, _, _, _, _, _, _, _, _, _, _, _, _, _, _, _, _, _, _, _, _, _, _, _, _, [], ⟨_, _, _, rfl, qW.start HTI.out, m8, m7, HMl, Only.refl _ _, trivial⟩, rfl⟩
 case round =>
  intro gk _ wr hinv JJ KK hJJ hKK
  obtain ⟨u9, u10, u11, u12, u13, u14, u15, u28, u29, u30, u31, u32, u33, u34, u35, u36, u37, u38, pM, u40, pO, u42, pR, u44, u45, u46, pU, u48, u49, pV, u51, pW, u53, mO, u55, mP, mQ, u58, u59, u60, u61, JV, u63, u64, JW, u66, JX, u68, ds, ⟨L, W0, W1, hgk, GY, H8, H7, xk, HO, DK⟩, rfl⟩ := hinv
  have hkw := qj.out
  have hs1 := cO.out
  have hsx := yG.out
  have hsl := UH.out
  have hsr : wl.heap.size ≤ wr.heap.size := HO.out.size
  have OR : Hid (Only (fun k => k = kb ∨ w.heap.size ≤ k) w wr) := OL.out.trans (HO.out.mono fun k hk => by omega)
  have Vx := Lib.hid (gK bPl.out HO.out (by omega))
  have bIr := Lib.hid (bIl.out.only HO.out (by omega))
  have bRr := Lib.hid (bRl.out.only HO.out (by omega))
  have HLn : Hid (∀ v, L v = true → v < n) := fun v hv => HI.out v (GY.out.sub v hv)
  have a0 := H8.out.c0
  have a1 := H8.out.c1
  have a2 := H8.out.c2
  have a3 := H8.out.c3
  cases h0 : lQ L with
  | true =>
    have HC := Lib.hid (fun w => rQ (w := w) L h0)
    have hz : ∀ v, L v = false := fun v => not_true fun hh => by
     have h1 := HLn.out v hh
     have h2 := uq.1 h0 v (by omega)
     rw [hh] at h2; cases h2
    have HD : Hid (W0 = dM ah O p I 0 ∧ W1 = dM ah O p I 1) := by
     have hg := HG.out
     exact GY.out.done hg.rows.eu (fun v hv => HL.out.own v (by rw [← hg.len]; exact hv)) (fun v hv => (HL.out.pos v (by rw [← hg.len]; exact hv)).1) (fun v hv => by rw [hg.len]; exact HI.out v hv) HTI.out hz
    clear h0 hz
    go_wp2_with (go_at_call 128; refine (HC.out _).mono ?_; rintro e wb ⟨rfl, hb⟩)
    have OB : Hid (Only (fun k => k = kb ∨ w.heap.size ≤ k) w wb) := OR.out.trans (Only.of_below hb)
    have JY := Lib.hid (H7.out.below hb)
    have JZ := Lib.hid (xk.out.below hb)
    have J3 := Lib.hid (dh Vx.out hb)
    have bIb := Lib.hid (bIr.out.below hb)
    have bRb := Lib.hid (bRr.out.below hb)
    have Po : Hid (fQ wb wl.heap.size ds) := DK.out.only (S := fun _ => False) (Only.of_below hb) fun _ h => h.elim
    have DI : Hid (wr.heap.size ≤ wb.heap.size) := hb.size
    have aC : Hid (∀ W', Below wb.heap.size wb W' → W'.cell? ⟨w.heap.size, 0, none⟩ = some (.pointer (some ⟨b, 0, none⟩)) ∧ W'.cell? ⟨b, 174, none⟩ = some (.map (some kb)) ∧ W'.cell? ⟨w.heap.size + 1, 0, none⟩ = some (.int .u64 (aj I 0)) ∧ W'.cell? ⟨w.heap.size + 1, 1, none⟩ = some (.int .u64 (aj I 1)) ∧ W'.cell? ⟨w.heap.size + 1, 2, none⟩ = some (.int .u64 (aj I 2)) ∧ W'.cell? ⟨w.heap.size + 1, 3, none⟩ = some (.int .u64 (aj I 3)) ∧ W'.cell? ⟨wx.heap.size, 0, none⟩ = some (.int .u64 (aj W0 0)) ∧ W'.cell? ⟨wx.heap.size, 1, none⟩ = some (.int .u64 (aj W0 1)) ∧ W'.cell? ⟨wx.heap.size, 2, none⟩ = some (.int .u64 (aj W0 2)) ∧ W'.cell? ⟨wx.heap.size, 3, none⟩ = some (.int .u64 (aj W0 3)) ∧ W'.cell? ⟨wx.heap.size, 4, none⟩ = some (.int .u64 (aj W1 0)) ∧ W'.cell? ⟨wx.heap.size, 5, none⟩ = some (.int .u64 (aj W1 1)) ∧ W'.cell? ⟨wx.heap.size, 6, none⟩ = some (.int .u64 (aj W1 2)) ∧ W'.cell? ⟨wx.heap.size, 7, none⟩ = some (.int .u64 (aj W1 3))) := fun W' hb => by
     have m1 := bIb.out.below hb
     have m4 := dh J3.out hb
     have m2 := JY.out.below hb
     have m5 := (eU.out _ (OB.out.trans (Only.of_below hb))).2.known
     exact ⟨m4.cell, m5, m1.c0, m1.c1, m1.c2, m1.c3, m2.c0, m2.c1, m2.c2, m2.c3, m2.c4, m2.c5, m2.c6, m2.c7⟩
    have Kd : Hid (Below wb.heap.size wb wb.drew) := (Below.refl _ _).drew
    obtain ⟨wz, hup, hmz, hoz⟩ := ahh (w := wb.drew) (I := I) (u := jc W0 W1) (JZ.out.below Kd.out) abq.out (by unfold gQ; rw [← HD.out.1, ← HD.out.2])
    have ahL : (Instr.mapUpdate 126 (.map (some kb)) (.agg #[.int .u64 (aj I 0), .int .u64 (aj I 1), .int .u64 (aj I 2), .int .u64 (aj I 3)]) (jc W0 W1)).run Tryd.prog wb.drew = .ok () wz := hup
    have HMz := Lib.hid hmz
    have Pq : Hid (Only (fun k => k = kb) wb wz) := (kS (Only.refl _ wb)).trans hoz
    clear hup hmz hoz hb a0 a1 a2 a3
    refine wp_cut (fun a' W => ∃ (u9 u10 u11 u12 u13 u14 u15 u28 u29 u30 u31 u32 u33 u34 u35 u36 u37 u38 pM u40 pO u42 pR u44 u45 u46 pU u48 u49 pV u51 pW u53 mO u55 mP mQ u58 u59 u60 u61 JV u63 u64 JW u66 JX u68 u69 u70 u71 u72 u73 u74 u75 : Value), W = wz ∧ a' = { tmps := #[.pointer (some ⟨b, 0, none⟩), aW I, .pointer (some ⟨w.heap.size, 0, none⟩), .pointer (some ⟨w.heap.size + 1, 0, none⟩), .pointer (some ⟨w.heap.size + 1 + 1, 0, none⟩), .pointer (some ⟨g5, 0, none⟩), .bool false, .pointer (some ⟨wx.heap.size, 0, none⟩), .pointer (some ⟨wx.heap.size + 1, 0, none⟩), u9, u10, u11, u12, u13, u14, u15, u16, iT, jJ, kU, u20, u21, u22, u23, u24, .bool false, undef, .agg #[.int .u64 (aj I 0), .int .u64 (aj I 1), .int .u64 (aj I 2), .int .u64 (aj I 3)], u28, u29, u30, u31, u32, u33, u34, u35, u36, u37, u38, pM, u40, pO, u42, pR, u44, u45, u46, pU, u48, u49, pV, u51, pW, u53, mO, u55, mP, mQ, u58, u59, u60, u61, JV, u63, u64, JW, u66, JX, u68, u69, u70, u71, u72, u73, u74, u75], defers := ds }) ?ahM ?ahN
    case ahM =>
     refine jB (S := (fun W' => W'.cell? ⟨w.heap.size, 0, none⟩ = some (.pointer (some ⟨b, 0, none⟩)) ∧ W'.cell? ⟨b, 174, none⟩ = some (.map (some kb)) ∧ W'.cell? ⟨w.heap.size + 1, 0, none⟩ = some (.int .u64 (aj I 0)) ∧ W'.cell? ⟨w.heap.size + 1, 1, none⟩ = some (.int .u64 (aj I 1)) ∧ W'.cell? ⟨w.heap.size + 1, 2, none⟩ = some (.int .u64 (aj I 2)) ∧ W'.cell? ⟨w.heap.size + 1, 3, none⟩ = some (.int .u64 (aj I 3)) ∧ W'.cell? ⟨wx.heap.size, 0, none⟩ = some (.int .u64 (aj W0 0)) ∧ W'.cell? ⟨wx.heap.size, 1, none⟩ = some (.int .u64 (aj W0 1)) ∧ W'.cell? ⟨wx.heap.size, 2, none⟩ = some (.int .u64 (aj W0 2)) ∧ W'.cell? ⟨wx.heap.size, 3, none⟩ = some (.int .u64 (aj W0 3)) ∧ W'.cell? ⟨wx.heap.size, 4, none⟩ = some (.int .u64 (aj W1 0)) ∧ W'.cell? ⟨wx.heap.size, 5, none⟩ = some (.int .u64 (aj W1 1)) ∧ W'.cell? ⟨wx.heap.size, 6, none⟩ = some (.int .u64 (aj W1 2)) ∧ W'.cell? ⟨wx.heap.size, 7, none⟩ = some (.int .u64 (aj W1 3)))) (m := 6) (by kernel_rfl) (aC.out _ Kd.out) (fun hHd => ?_)
     refine aB (i := 0) (v := ?Bj) rfl (by kernel_rfl) (by decide) (by kernel_rfl) (by kernel_rfl) (by kernel_rfl) (fun _ _ _ h => h) (Or.inl ⟨by rfl, ?mY⟩) (by assumption) ?_
     case mY => (intro w hSw; (try dsimp only at hSw); go_simp; first | done | with_reducible rfl)
     try simp only [Act.put, g1, g2, g3]
     refine aB (i := 1) (v := ?Bo) rfl (by kernel_rfl) (by decide) (by kernel_rfl) (by kernel_rfl) (by kernel_rfl) (fun _ _ _ h => h) (Or.inl ⟨by rfl, ?mZ⟩) (by assumption) ?_
     case mZ => (intro w hSw; (try dsimp only at hSw); go_simp; first | done | with_reducible rfl)
     try simp only [Act.put, g1, g2, g3]
     refine aB (i := 2) (v := ?Bq) rfl (by kernel_rfl) (by decide) (by kernel_rfl) (by kernel_rfl) (by kernel_rfl) (fun _ _ _ h => h) (Or.inl ⟨by rfl, ?ng⟩) (by assumption) ?_
     case ng => (intro w hSw; (try dsimp only at hSw); go_simp; first | done | with_reducible rfl)
     try simp only [Act.put, g1, g2, g3]
     refine aB (i := 3) (v := ?BA) rfl (by kernel_rfl) (by decide) (by kernel_rfl) (by kernel_rfl) (by kernel_rfl) (fun _ _ _ h => h) (Or.inl ⟨by rfl, ?ni⟩) (by assumption) ?_
     case ni => (intro w hSw; (try dsimp only at hSw); go_simp; first | done | with_reducible rfl)
     try simp only [Act.put, g1, g2, g3]
     refine aB (i := 4) (v := ?BD) rfl (by kernel_rfl) (by decide) (by kernel_rfl) (by kernel_rfl) (by kernel_rfl) (fun _ _ _ h => h) (Or.inl ⟨by rfl, ?ny⟩) (by assumption) ?_
     case ny => (intro w hSw; (try dsimp only at hSw); go_simp; first | done | with_reducible rfl)
     try simp only [Act.put, g1, g2, g3]
     refine aB (i := 5) (v := ?BH) rfl (by kernel_rfl) (by decide) (by kernel_rfl) (by kernel_rfl) (by kernel_rfl) (fun _ _ _ h => h) (Or.inl ⟨by rfl, ?nC⟩) (by assumption) ?_
     case nC => (intro w hSw; (try dsimp only at hSw); go_simp; first | done | with_reducible rfl)
     try simp only [Act.put, g1, g2, g3]
     clear hHd
     refine aG (i := 6) (by kernel_rfl) rfl (fun K hK => ?_)
     go_simp
     refine hK.out _ _ (fun h => absurd h (by decide)) (fun _ => ?_)
     clear hK K
     try simp only [Act.put, g1, g2, g3]
     refine dA (by kernel_rfl) ?_ _
     exact ⟨_, _, _, _, _, _, _, _, _, _, _, _, _, _, _, _, _, _, _, _, _, _, _, _, _, _, _, _, _, _, _, _, _, _, _, _, _, _, _, _, _, _, _, _, _, _, _, _, _, _, _, _, _, _, _, rfl, rfl⟩
    case ahN =>
    rintro a' W ⟨u9, u10, u11, u12, u13, u14, u15, u28, u29, u30, u31, u32, u33, u34, u35, u36, u37, u38, pM, u40, pO, u42, pR, u44, u45, u46, pU, u48, u49, pV, u51, pW, u53, mO, u55, mP, mQ, u58, u59, u60, u61, JV, u63, u64, JW, u66, JX, u68, u69, u70, u71, u72, u73, u74, u75, rfl, rfl⟩
    have H7z := Lib.hid (JY.out.only Pq.out (by omega))
    have Vy := Lib.hid (bRb.out.only Pq.out (by omega))
    have ahO : Hid (fQ W wl.heap.size ds) := Po.out.only Pq.out fun D hD _ => by
     rw [hD]
     obtain ⟨es, c, h1, _⟩ := JZ.out
     rw [h1]
     simp
    clear ahL aC Kd
    go_upto_region 17 with fail
    refine wp_region_lit ?_
    refine wpList_load_row rfl 71 _ rfl wx.heap.size rfl 71 (kZ W0 W1) (0, 0) (.array 2 69) H7z.out (by kernel_rfl) rfl (by kernel_rfl) ?_
    simp only [Act.put, g1, g2, g3]
    refine wpList_store_row rfl 71 _ _ rfl (w.heap.size + 1 + 1) (kZ W0 W1) rfl rfl 71 (kZ (fun _ => false) (fun _ => false)) Vy.out (by kernel_rfl) (by simp) (by simp [Value.oneCell']) ?_
    refine wpList_nil ?_
    try simp only [Act.put, g1, g2, g3]
    go_wp2_with fail
    have OZ : Only (fun k => k = kb ∨ w.heap.size ≤ k) w (W.setRow (w.heap.size + 1 + 1) (kZ W0 W1)) := GX (S := fun k => k = kb ∨ w.heap.size ≤ k) (OB.out.trans (Pq.out.mono fun k hk => .inl hk)) (.inr (by omega)) _
    refine Vu (g := w.heap.size + 1 + 1) (B := wl.heap.size) rfl rfl (Vy.out.Vt W0 W1) (ahO.out.only (GX (S := fun k => k = w.heap.size + 1 + 1) (Only.refl _ _) rfl _) fun D hD _ => ?_) fun W' ho => ⟨by rw [HD.out.1, HD.out.2], OZ.trans (ho.mono fun k hk => .inr (by omega)), ?_⟩
    · rw [hD]; exact DJ Vy.out rfl
    · exact (HMz.out.only (GX (S := fun k => k = w.heap.size + 1 + 1) (Only.refl _ _) rfl _) (by omega)).only ho fun hk => by omega
  | false =>
    have HC := Lib.hid (fun w => rQ (w := w) L h0)
    have H0 := Lib.hid h0
    clear h0
    go_upto_region 7 with (go_at_call 128; refine (HC.out _).mono ?_; rintro e wb ⟨rfl, hb⟩)
    have OB : Hid (Only (fun k => k = kb ∨ w.heap.size ≤ k) w wb) := OR.out.trans (Only.of_below hb)
    have GZ := Lib.hid (H8.out.below hb)
    have JY := Lib.hid (H7.out.below hb)
    have JZ := Lib.hid (xk.out.below hb)
    have J3 := Lib.hid (dh Vx.out hb)
    have Po : Hid (fQ wb wl.heap.size ds) := DK.out.only (S := fun _ => False) (Only.of_below hb) fun _ h => h.elim
    have OLb : Hid (Only (fun k => k = kb ∨ wx.heap.size ≤ k) wl wb) := HO.out.trans (Only.of_below hb)
    have DI : Hid (wr.heap.size ≤ wb.heap.size) := hb.size
    have b0 := GZ.out.c0
    have b1 := GZ.out.c1
    have b2 := GZ.out.c2
    have b3 := GZ.out.c3
    have b4 := J3.out.cell
    clear hb a0 a1 a2 a3 HC H8 H7 xk Vx DK HO
    go_wp2_with fail
    refine (aha (eU.out _ OB.out).1 (eU.out _ OB.out).2 HG.out HLn.out H0.out).mono ?_
    rintro e wc ⟨S, rfl, hSh, Pj, hb⟩
    have Vz := Lib.hid hSh
    have ahP := Lib.hid Pj
    have OC : Hid (Only (fun k => k = kb ∨ w.heap.size ≤ k) w wc) := OB.out.trans (Only.of_below hb)
    have H8c := Lib.hid (GZ.out.below hb)
    have H7c := Lib.hid (JY.out.below hb)
    have HMc := Lib.hid (JZ.out.below hb)
    have Pv := Lib.hid (dh J3.out hb)
    have abr : Hid (fQ wc wl.heap.size ds) := Po.out.only (S := fun _ => False) (Only.of_below hb) fun _ h => h.elim
    have OLc : Hid (Only (fun k => k = kb ∨ wx.heap.size ≤ k) wl wc) := OLb.out.trans (Only.of_below hb)
    have HSc : Hid (wb.heap.size ≤ wc.heap.size) := hb.size
    have d4 := Pv.out.cell
    have d5 := Pv.out.lt
    clear hb b0 b1 b2 b3 b4 GZ JY JZ J3 Po OLb
    go_wp2_with fail
    obtain ⟨wd, hwd⟩ : ∃ y, y = wc.alloc (xA S) := ⟨_, rfl⟩
    rw [← hwd]
    refine (ahD _ _ _ _).mono ?_
    rintro e w2 ⟨rfl, hw2⟩
    have Bd : Hid (Below wc.heap.size wc w2) := by rw [hw2, hwd]; exact below2 _ _ _
    have H9 : Hid (aH w2 wc.heap.size S) := by rw [hw2, hwd]; exact (aH.new wc S).below (aA _ _)
    have ahQ : Hid (w2.cell? ⟨wd.heap.size, 0, none⟩ = some (.slice (some ⟨b, 8, none⟩) 41 41)) := by rw [hw2]; exact (Boxed.new wd _ _).cell
    have HSd : Hid (wd.heap.size = wc.heap.size + 1 ∧ w2.heap.size = wc.heap.size + 2) := by rw [hw2, hwd]; simp [Hid]
    clear hwd hw2 d4 d5
    have O2 : Hid (Only (fun k => k = kb ∨ w.heap.size ≤ k) w w2) := OC.out.trans (Only.of_below Bd.out)
    have H8d := Lib.hid (H8c.out.below Bd.out)
    have H7d := Lib.hid (H7c.out.below Bd.out)
    have HMd := Lib.hid (HMc.out.below Bd.out)
    have bPd := Lib.hid (dh Pv.out Bd.out)
    have VA : Hid (fQ w2 wl.heap.size ds) := abr.out.only (S := fun _ => False) (Only.of_below Bd.out) fun _ h => h.elim
    have OLd : Hid (Only (fun k => k = kb ∨ wx.heap.size ≤ k) wl w2) := OLc.out.trans (Only.of_below Bd.out)
    have ahR := Lib.hid (eU.out _ O2.out).2.pJ
    have ahS := Lib.hid (eU.out _ O2.out).2.lt
    have HBw := Lib.hid (eU.out _ (Only.refl _ w)).2.lt
    have oZ := Lib.hid (eU.out _ (Only.refl _ w)).2.apart
    have lY : Hid (∀ v, S v = true → v < n) := fun v hv => HLn.out v (Vz.out.1 v hv)
    clear H8c H7c HMc Pv abr OLc
    go_wp2_with fail
    have hsd := HSd.out
    have hsc := HSc.out
    have hsb := DI.out
    have hap := oZ.out
    have hbw := HBw.out
    refine ahH (Bs := wd.heap.size) (b := b) (off := 8) (cap := 41) (n := 41) (E := Lv) rfl (by omega) (by omega) ahS.out.1 ahQ.out ahR.out rfl (fun k => k = kb ∨ k = wx.heap.size ∨ k = wx.heap.size + 1)
     (fun k hk => by omega)
     (fun pre W => (∀ x ∈ pre, ∀ v, S v = true → p v ≠ ((x.1 : Nat) : Int)) ∧ aH W (wx.heap.size + 1) L ∧ cZ W wx.heap.size W0 W1 ∧ dH W kb (gQ ah O p))
     (fun c pre W => c = .exit 1 ∧ ∃ (L' X0 X1 : Nat → Bool), ((∃ k, k ≤ 41 ∧ pre = (iw 41).take k) → qW ah O p I L' X0 X1) ∧ (aU L' 256).length < (aU L 256).length ∧ aH W (wx.heap.size + 1) L' ∧ cZ W wx.heap.size X0 X1 ∧ dH W kb (gQ ah O p))
     (fun pre A A' h ho => ⟨h.1, h.2.1.only ho (by omega), h.2.2.1.only ho (by omega), h.2.2.2.only ho (by omega)⟩)
     (fun c pre A A' h ho => by
      obtain ⟨h1, L', X0, X1, h2, h3, h4, h5, h6⟩ := h
      exact ⟨h1, L', X0, X1, h2, h3, h4.only ho (by omega), h5.only ho (by omega), h6.only ho (by omega)⟩)
     ⟨fun _ h => absurd h (by simp), H8d.out, H7d.out, HMd.out⟩ ?fr ?assign ?body ?done ?stop
    case assign =>
     intro l x W gl K hgl hK
     dsimp only [JU]
     gi_wp2
     exact hK
    case body =>
     intro l pre x W gl hR hO hgl G5
     obtain ⟨hpre, hM8, hO7, hMm⟩ := hR
     obtain ⟨q, hq⟩ : ∃ q : Nat, q = x.1 := ⟨_, rfl⟩
     have VB : q < 41 := by rw [hq]; exact x.2
     have hq0 : (0 : Int) ≤ (q : Int) := by omega
     have HPX : Hid ((∃ k, k ≤ 41 ∧ pre ++ [x] = (iw 41).take k) → ∀ v, S v = true → p v ≤ (q : Int)) := fun ⟨k, _, hk⟩ v hv => by
      have hpv := HL.out.pos v (lY.out v hv)
      apply Classical.byContradiction
      intro hc
      have hm := ahG hk ⟨(p v).toNat, by omega⟩ (by show x.1 < (p v).toNat; omega)
      refine hpre _ hm v hv ?_
      show p v = (((p v).toNat : Nat) : Int)
      omega
     have HPR : Hid ((∀ v, S v = true → p v ≠ (q : Int)) → ∀ y ∈ pre ++ [x], ∀ v, S v = true → p v ≠ ((y.1 : Nat) : Int)) := fun h y hy v hv => by
      rcases List.mem_append.1 hy with hy | hy
      · exact hpre y hy v hv
      · rw [List.mem_singleton.1 hy, ← hq]; exact h v hv
     rw [← hq] at G5 ⊢
     clear hq
     obtain ⟨T, GN⟩ : ∃ T, dR (Lv q) S = T := ⟨_, rfl⟩
     have HT : Hid (∀ v, T v = true ↔ S v = true ∧ p v = (q : Int)) := fun v => by
      rw [← GN]
      unfold dR
      rw [Bool.and_eq_true, HL.out.is q VB v]
      exact ⟨fun h => ⟨h.2, h.1.2⟩, fun h => ⟨⟨lY.out v h.1, h.2⟩, h.1⟩⟩
     have hsW := hO.size
     have OW : Hid (Only (fun k => k = kb ∨ w.heap.size ≤ k) w W) := O2.out.trans (hO.mono fun k hk => by omega)
     have oJ := Lib.hid (gK bPd.out hO (by omega))
     have G6 := Lib.hid (H9.out.only hO (by omega))
     have VD := Lib.hid hM8
     have VE := Lib.hid hO7
     have JC := Lib.hid hMm
     have e0 := G5.c0
     have e1 := G5.c1
     have e2 := G5.c2
     have e3 := G5.c3
     have s0 := G6.out.c0
     have s1 := G6.out.c1
     have s2 := G6.out.c2
     have s3 := G6.out.c3
     clear hO hM8 hO7 hMm hpre G5
     gi_wp2
     refine ⟨trivial, ?_⟩
     refine (CallsIn.inRound l (callsIn_wide.2 (agW GN))).mono ?_
     rintro e Wa ⟨rfl, hb⟩
     clear e0 e1 e2 e3 s0 s1 s2 s3 GN
     have Ka := Lib.hid hb
     have HSa : Hid (W.heap.size ≤ Wa.heap.size) := hb.size
     clear hb
     gi_wp2
     obtain ⟨Wt, Px⟩ : ∃ y, y = Wa.alloc (xA T) := ⟨_, rfl⟩
     rw [← Px]
     have Bt : Hid (Below W.heap.size W Wt) := by rw [Px]; exact Ka.out.trans ((aA _ _).mono HSa.out)
     have HTt : Hid (aH Wt Wa.heap.size T) := by rw [Px]; exact aH.new _ _
     clear Px
     have hsa := HSa.out
     cases hz : lQ T with
     | true =>
       refine ⟨trivial, ?_⟩
       refine (CallsIn.inRound l (callsIn_wide.2 (rQ T hz))).mono ?_
       rintro e We ⟨rfl, hb⟩
       have Ke := Lib.hid (Bt.out.trans (hb.mono Bt.out.size))
       clear hb
       have hno : ∀ v, S v = true → p v ≠ (q : Int) := fun v hv hpv => by
        have h1 := (HT.out v).2 ⟨hv, hpv⟩
        have h2 := uq.1 hz v (by have := lY.out v hv; omega)
        rw [h1] at h2; cases h2
       have HR := Lib.hid (HPR.out hno)
       clear hno hz
       gi_wp2
       exact ⟨Only.of_below Ke.out, HR.out, VD.out.below Ke.out, VE.out.below Ke.out, JC.out.below Ke.out⟩
     | false =>
       have abt : ∃ v, T v = true := by
        apply Classical.byContradiction
        intro hn'
        have h2 := uq.2 fun v _ => not_true fun hh => hn' ⟨v, hh⟩
        rw [hz] at h2
        cases h2
       have ahT := Lib.hid abt
       refine ⟨trivial, ?_⟩
       refine (CallsIn.inRound l (callsIn_wide.2 (rQ T hz))).mono ?_
       rintro e We ⟨rfl, hb⟩
       have Ke := Lib.hid (Bt.out.trans (hb.mono Bt.out.size))
       have Py := Lib.hid (HTt.out.below hb)
       have DY : Hid (Wt.heap.size ≤ We.heap.size) := hb.size
       clear hb hz abt
       have OE : Hid (Only (fun k => k = kb ∨ w.heap.size ≤ k) w We) := OW.out.trans (Only.of_below Ke.out)
       have Pz := Lib.hid (dh oJ.out Ke.out)
       have J4 := Lib.hid (G6.out.below Ke.out)
       have VF := Lib.hid (VD.out.below Ke.out)
       have VG := Lib.hid (VE.out.below Ke.out)
       have HMe := Lib.hid (JC.out.below Ke.out)
       have x0 := Py.out.c0
       have x1 := Py.out.c1
       have x2 := Py.out.c2
       have x3 := Py.out.c3
       have y0 := J4.out.c0
       have y1 := J4.out.c1
       have y2 := J4.out.c2
       have y3 := J4.out.c3
       have z0 := Pz.out.cell
       clear oJ G6 VD VE JC HTt
       gi_wp2
       refine ⟨trivial, ?_⟩
       have hle : ∀ J, (aU J 256).length < (aU S 256).length → (aU J 256).length < (aU I 256).length := fun J hJ => Nat.lt_of_lt_of_le hJ (Nc 256 fun v _ hv => GY.out.sub v (Vz.out.1 v hv))
       refine (CallsIn.inRound l (callsIn_wide.2 (gain_holds (q := q) (eU.out _ OE.out).1 (eU.out _ OE.out).2 HMe.out HG.out HL.out.own (fun v hv => (HL.out.pos v hv).1) HLn.out GY.out.tot Vz.out (by omega) HT.out ahT.out fun J h1 h2 h3 => HIH.out J (hle J h1) h2 h3))).mono ?_
       clear hle
       rintro e Wg ⟨who, Z, ⟨rfl, hwho, hH, abu, hZL⟩, ho, hm⟩
       have HH := Lib.hid hH
       have abv := Lib.hid abu
       have kL := Lib.hid hZL
       have HMg := Lib.hid hm
       have hse := DY.out
       have hst := Bt.out.size
       have OG : Hid (Only (fun k => k = kb ∨ w.heap.size ≤ k) w Wg) := OE.out.trans (ho.mono fun k hk => by omega)
       have PC : Hid (Only (fun k => k = kb ∨ W.heap.size ≤ k) W Wg) := (Only.of_below Ke.out).trans (ho.mono fun k hk => by omega)
       have bPg := Lib.hid (gK Pz.out ho (by have := Pz.out.lt; omega))
       have Eb := Lib.hid (VF.out.only ho (by have := VF.out.lt; omega))
       have H7g := Lib.hid (VG.out.only ho (by have := VG.out.lt; omega))
       have NW : Hid (We.heap.size ≤ Wg.heap.size) := ho.size
       clear ho hm hH abu hZL x0 x1 x2 x3 y0 y1 y2 y3 z0 Pz J4 VF VG HMe
       have v0 := Eb.out.c0
       have v1 := Eb.out.c1
       have v2 := Eb.out.c2
       have v3 := Eb.out.c3
       have v4 := Eb.out.lt
       have v5 := bPg.out.cell
       have v6 := bPg.out.lt
       rcases hwho with rfl | rfl
       · skip
         gi_wp2
         obtain ⟨Wz, Ec⟩ : ∃ y, y = Wg.alloc (xA Z) := ⟨_, rfl⟩
         rw [← Ec]
         have Bz : Hid (Below Wg.heap.size Wg Wz) := by rw [Ec]; exact aA _ _
         clear Ec
         have OZ : Hid (Only (fun k => k = kb ∨ w.heap.size ≤ k) w Wz) := OG.out.trans (Only.of_below Bz.out)
         refine ⟨trivial, ?_⟩
         refine (CallsIn.inRound l (callsIn_wide.2 (NZ (i := 0) (eU.out _ OZ.out).1 (eU.out _ OZ.out).2 HG.out (by omega) HLn.out kL.out))).mono ?_
         rintro e Wh ⟨rfl, hb⟩
         have Bh := Lib.hid (Bz.out.trans (hb.mono Bz.out.size))
         have J5 : Hid (Wg.heap.size ≤ Wh.heap.size) := Bh.out.size
         clear hb v0 v1 v2 v3 v4 v5 v6
         have ht : ∃ D, aN ah O ((0 : Nat) : Int) L Z = D := ⟨_, rfl⟩
         obtain ⟨D, hD⟩ := ht
         have Ed := Lib.hid hD
         rw [hD]
         clear hD
         gi_wp2
         obtain ⟨Wi, yY⟩ : ∃ y, y = Wh.alloc (xA D) := ⟨_, rfl⟩
         rw [← yY]
         have Bi : Hid (Below Wg.heap.size Wg Wi) := by rw [yY]; exact Bh.out.trans ((aA _ _).mono J5.out)
         have J6 : Hid (aH Wi Wh.heap.size D) := by rw [yY]; exact aH.new _ _
         clear yY
         have Ee := Lib.hid (Eb.out.below Bi.out)
         have uN := Lib.hid (H7g.out.below Bi.out)
         have VH := Lib.hid (HMg.out.below Bi.out)
         have hsg := NW.out
         have hsh := J5.out
         have aC : Hid (∀ W', Only (fun k => k = wx.heap.size ∨ Wi.heap.size ≤ k) Wi W' → W'.cell? ⟨wx.heap.size + 1, 0, none⟩ = some (.int .u64 (aj L 0)) ∧ W'.cell? ⟨wx.heap.size + 1, 1, none⟩ = some (.int .u64 (aj L 1)) ∧ W'.cell? ⟨wx.heap.size + 1, 2, none⟩ = some (.int .u64 (aj L 2)) ∧ W'.cell? ⟨wx.heap.size + 1, 3, none⟩ = some (.int .u64 (aj L 3)) ∧ W'.cell? ⟨Wh.heap.size, 0, none⟩ = some (.int .u64 (aj D 0)) ∧ W'.cell? ⟨Wh.heap.size, 1, none⟩ = some (.int .u64 (aj D 1)) ∧ W'.cell? ⟨Wh.heap.size, 2, none⟩ = some (.int .u64 (aj D 2)) ∧ W'.cell? ⟨Wh.heap.size, 3, none⟩ = some (.int .u64 (aj D 3))) := fun W' ho => by
          have m1 := Ee.out.only ho (by have := Ee.out.lt; omega)
          have m2 := J6.out.only ho (by have := J6.out.lt; omega)
          exact ⟨m1.c0, m1.c1, m1.c2, m1.c3, m2.c0, m2.c1, m2.c2, m2.c3⟩
         have Kd : Hid (Below Wi.heap.size Wi Wi.drew) := (Below.refl _ _).drew
         have o0 := uN.out.c0
         have o1 := uN.out.c1
         have o2 := uN.out.c2
         have o3 := uN.out.c3
         gi_wp2
         refine uy (S := (fun W' => W'.cell? ⟨wx.heap.size + 1, 0, none⟩ = some (.int .u64 (aj L 0)) ∧ W'.cell? ⟨wx.heap.size + 1, 1, none⟩ = some (.int .u64 (aj L 1)) ∧ W'.cell? ⟨wx.heap.size + 1, 2, none⟩ = some (.int .u64 (aj L 2)) ∧ W'.cell? ⟨wx.heap.size + 1, 3, none⟩ = some (.int .u64 (aj L 3)) ∧ W'.cell? ⟨Wh.heap.size, 0, none⟩ = some (.int .u64 (aj D 0)) ∧ W'.cell? ⟨Wh.heap.size, 1, none⟩ = some (.int .u64 (aj D 1)) ∧ W'.cell? ⟨Wh.heap.size, 2, none⟩ = some (.int .u64 (aj D 2)) ∧ W'.cell? ⟨Wh.heap.size, 3, none⟩ = some (.int .u64 (aj D 3)))) (m := 11) (by kernel_rfl) (by kernel_rfl) (aC.out _ (Only.of_below Kd.out)) (fun hHd => ?_)
         refine aB (i := 0) (v := ?DL) rfl (by kernel_rfl) (by decide) (by kernel_rfl) (by kernel_rfl) (by kernel_rfl) (fun _ _ _ h => h) (Or.inl ⟨by rfl, ?nN⟩) (by assumption) ?_
         case nN => (intro w hSw; (try dsimp only at hSw); go_simp; first | done | with_reducible rfl)
         try simp only [Act.put, g1, g2, g3]
         refine aB (i := 1) (v := ?GR) rfl (by kernel_rfl) (by decide) (by kernel_rfl) (by kernel_rfl) (by kernel_rfl) (fun _ _ _ h => h) (Or.inl ⟨by rfl, ?qX⟩) (by assumption) ?_
         case qX => (intro w hSw; (try dsimp only at hSw); go_simp; first | done | with_reducible rfl)
         try simp only [Act.put, g1, g2, g3]
         refine aB (i := 2) (v := ?JD) rfl (by kernel_rfl) (by decide) (by kernel_rfl) (by kernel_rfl) (by kernel_rfl) (fun _ _ _ h => h) (Or.inl ⟨by rfl, ?hm18⟩) (by assumption) ?_
         case hm18 => (intro w hSw; (try dsimp only at hSw); go_simp; first | done | with_reducible rfl)
         try simp only [Act.put, g1, g2, g3]
         refine aB (i := 4) (v := ?JE) rfl (by kernel_rfl) (by decide) (by kernel_rfl) (by kernel_rfl) (by kernel_rfl) (fun _ _ _ h => h) (Or.inl ⟨by rfl, ?uK⟩) (by assumption) ?_
         case uK => (intro w hSw; (try dsimp only at hSw); go_simp; first | done | with_reducible rfl)
         try simp only [Act.put, g1, g2, g3]
         refine aB (i := 6) (v := ?JF) rfl (by kernel_rfl) (by decide) (by kernel_rfl) (by kernel_rfl) (by kernel_rfl) (fun _ _ _ h => h) (Or.inl ⟨by rfl, ?uM⟩) (by assumption) ?_
         case uM => (intro w hSw; (try dsimp only at hSw); go_simp; first | done | with_reducible rfl)
         try simp only [Act.put, g1, g2, g3]
         refine aB (i := 7) (v := ?Oj) rfl (by kernel_rfl) (by decide) (by kernel_rfl) (by kernel_rfl) (by kernel_rfl) (fun _ _ _ h => h) (Or.inl ⟨by rfl, ?yH⟩) (by assumption) ?_
         case yH => (intro w hSw; (try dsimp only at hSw); go_simp; first | done | with_reducible rfl)
         try simp only [Act.put, g1, g2, g3]
         refine aG (i := 3) (by kernel_rfl) rfl (fun K hK => ?_)
         go_simp
         refine hK.out _ _ (fun _ => aC.out _ (Only.of_below Kd.out)) (fun hHd => ?_)
         have hHd := hHd (by decide)
         clear hK K
         try simp only [Act.put, g1, g2, g3]
         clear o0 o1 o2 o3
         refine aG (i := 5) (by kernel_rfl) rfl (fun K hK => ?_)
         go_simp
         go_at_call 109
         refine (yu _ _).mono ?_
         rintro e Wj ⟨rfl, hb⟩
         have Kj := Lib.hid (Kd.out.trans (hb.mono Kd.out.size))
         clear hb
         go_wp2_with fail
         refine hK.out _ _ (fun _ => aC.out _ (Only.of_below Kj.out)) (fun hHd => ?_)
         have hHd := hHd (by decide)
         clear hK K
         try simp only [Act.put, g1, g2, g3]
         refine aB (i := 9) (v := ?Ol) rfl (by kernel_rfl) (by decide) (by kernel_rfl) (by kernel_rfl) (by kernel_rfl) (fun _ _ _ h => h) (Or.inl ⟨by rfl, ?yI⟩) (by assumption) ?_
         case yI => (intro w hSw; (try dsimp only at hSw); go_simp; first | done | with_reducible rfl)
         try simp only [Act.put, g1, g2, g3]
         refine aG (i := 8) (by kernel_rfl) rfl (fun K hK => ?_)
         go_simp
         go_at_call 133
         refine (mJ _ _).mono ?_
         rintro e Wk ⟨rfl, hb⟩
         have Kk := Lib.hid (Kj.out.trans (hb.mono Kj.out.size))
         clear hb
         go_wp2_with fail
         refine hK.out _ _ (fun _ => aC.out _ (Only.of_below Kk.out)) (fun hHd => ?_)
         have hHd := hHd (by decide)
         clear hK K
         try simp only [Act.put, g1, g2, g3]
         have mA := uN.out.below Kk.out
         have z0 := mA.c0
         have fz0 := mA.frozen 0
         have z1 := mA.c1
         have gz := mA.frozen 1
         have z2 := mA.c2
         have gB := mA.frozen 2
         have z3 := mA.c3
         have fz3 := mA.frozen 3
         have mB := Lib.hid (mA.ahI (aO W0 D))
         have OK : Hid (Only (fun k => k = wx.heap.size ∨ Wi.heap.size ≤ k) Wi ((((Wk.setCell ⟨wx.heap.size, 0, none⟩ (.int .u64 (aj (aO W0 D) 0))).setCell ⟨wx.heap.size, 1, none⟩ (.int .u64 (aj (aO W0 D) 1))).setCell ⟨wx.heap.size, 2, none⟩ (.int .u64 (aj (aO W0 D) 2))).setCell ⟨wx.heap.size, 3, none⟩ (.int .u64 (aj (aO W0 D) 3)))) := dw (S := fun k => k = wx.heap.size ∨ Wi.heap.size ≤ k) (Only.of_below Kk.out |>.mono fun k hk => by exact hk) (.inl rfl) (.int .u64 (aj (aO W0 D) 0)) (.int .u64 (aj (aO W0 D) 1)) (.int .u64 (aj (aO W0 D) 2)) (.int .u64 (aj (aO W0 D) 3)) 0
         clear mA hHd
         refine aG (i := 10) (by kernel_rfl) rfl (fun K hK => ?_)
         go_simp
         refine hK.out _ _ (fun _ => aC.out _ OK.out) (fun hHd => ?_)
         have hHd := hHd (by decide)
         clear hK K
         try simp only [Act.put, g1, g2, g3]
         clear hHd z0 fz0 z1 gz z2 gB z3 fz3
         have J7 := Lib.hid ((Ee.out.below Kk.out).only (dw (S := fun k => k = wx.heap.size) (Only.refl _ Wk) (g := wx.heap.size) rfl (.int .u64 (aj (aO W0 D) 0)) (.int .u64 (aj (aO W0 D) 1)) (.int .u64 (aj (aO W0 D) 2)) (.int .u64 (aj (aO W0 D) 3)) 0) (by omega))
         have J8 := Lib.hid ((VH.out.below Kk.out).only (dw (S := fun k => k = wx.heap.size) (Only.refl _ Wk) (g := wx.heap.size) rfl (.int .u64 (aj (aO W0 D) 0)) (.int .u64 (aj (aO W0 D) 1)) (.int .u64 (aj (aO W0 D) 2)) (.int .u64 (aj (aO W0 D) 3)) 0) (by omega))
         obtain ⟨Wo, yZ⟩ : ∃ y, y = ((((Wk.setCell ⟨wx.heap.size, 0, none⟩ (.int .u64 (aj (aO W0 D) 0))).setCell ⟨wx.heap.size, 1, none⟩ (.int .u64 (aj (aO W0 D) 1))).setCell ⟨wx.heap.size, 2, none⟩ (.int .u64 (aj (aO W0 D) 2))).setCell ⟨wx.heap.size, 3, none⟩ (.int .u64 (aj (aO W0 D) 3))) := ⟨_, rfl⟩
         have lg : Hid (aH Wo (wx.heap.size + 1) L) := by rw [yZ]; exact J7.out
         have VI : Hid (dH Wo kb (gQ ah O p)) := by rw [yZ]; exact J8.out
         rw [← yZ] at mB OK ⊢
         clear yZ J7 J8 aC
         have z0 := lg.out.c0
         have fz0 := lg.out.frozen 0
         have z1 := lg.out.c1
         have gz := lg.out.frozen 1
         have z2 := lg.out.c2
         have gB := lg.out.frozen 2
         have z3 := lg.out.c3
         have fz3 := lg.out.frozen 3
         have mC := Lib.hid (lg.out.gV (aQ L D))
         refine aG (i := 11) (by kernel_rfl) rfl (fun K hK => ?_)
         go_simp
         refine hK.out _ _ (fun h => absurd h (by decide)) (fun _ => ?_)
         clear hK K
         try simp only [Act.put, g1, g2, g3]
         refine dA (by kernel_rfl) ?_ _
         refine uw ?_
         clear z0 fz0 z1 gz z2 gB z3 fz3
         gi_wp2
         have P4 := dw (S := fun k => k = wx.heap.size + 1) (Only.refl _ Wo) (g := wx.heap.size + 1) rfl (.int .u64 (aj (aQ L D) 0)) (.int .u64 (aj (aQ L D) 1)) (.int .u64 (aj (aQ L D) 2)) (.int .u64 (aj (aQ L D) 3)) 0
         refine ⟨?_, rfl, aQ L D, (aO W0 D), W1, fun hk => ?_, ?_, mC.out, mB.out.only P4 (by omega), VI.out.only P4 (by omega)⟩
         · have q1 := Bi.out.size
           have q2 := PC.out.size
           exact ((((PC.out.trans (Only.of_below Bi.out)).mono fun k hk => hk.imp .inl id).trans (OK.out.mono fun k hk => by omega))).trans (P4.mono fun k hk => .inl (.inr (.inr hk)))
         · obtain ⟨st, hst⟩ := HH.out (HPX.out hk)
           have hg := HG.out
           have hs := GY.out.zero hg.rows.eu (fun v hv => HL.out.own v (by rw [← hg.len]; exact hv)) hst
           have hd := Ed.out
           rw [← hd]
           exact hs
         · obtain ⟨v, hv⟩ := abv.out
           have sG := kL.out v hv
           have hvn := HLn.out v sG
           have hg := HG.out
           have ha : aN ah O ((0 : Nat) : Int) L Z v = true := (qL hg.rows.eu (by rw [hg.len]; exact hvn)).2 ⟨sG, .inl hv⟩
           rw [Ed.out] at ha
           exact wL (n := 256) (fun u _ hu => (eP.1 hu).1) (v := v) (by omega) sG (not_true fun hh => by
            have := (eP.1 hh).2
            rw [ha] at this
            cases this)
       · skip
         gi_wp2
         obtain ⟨Wz, Ec⟩ : ∃ y, y = Wg.alloc (xA Z) := ⟨_, rfl⟩
         rw [← Ec]
         have Bz : Hid (Below Wg.heap.size Wg Wz) := by rw [Ec]; exact aA _ _
         clear Ec
         have OZ : Hid (Only (fun k => k = kb ∨ w.heap.size ≤ k) w Wz) := OG.out.trans (Only.of_below Bz.out)
         refine ⟨trivial, ?_⟩
         refine (CallsIn.inRound l (callsIn_wide.2 (NZ (i := 1) (eU.out _ OZ.out).1 (eU.out _ OZ.out).2 HG.out (by omega) HLn.out kL.out))).mono ?_
         rintro e Wh ⟨rfl, hb⟩
         have Bh := Lib.hid (Bz.out.trans (hb.mono Bz.out.size))
         have J5 : Hid (Wg.heap.size ≤ Wh.heap.size) := Bh.out.size
         clear hb v0 v1 v2 v3 v4 v5 v6
         have ht : ∃ D, aN ah O ((1 : Nat) : Int) L Z = D := ⟨_, rfl⟩
         obtain ⟨D, hD⟩ := ht
         have Ed := Lib.hid hD
         rw [hD]
         clear hD
         gi_wp2
         obtain ⟨Wi, yY⟩ : ∃ y, y = Wh.alloc (xA D) := ⟨_, rfl⟩
         rw [← yY]
         have Bi : Hid (Below Wg.heap.size Wg Wi) := by rw [yY]; exact Bh.out.trans ((aA _ _).mono J5.out)
         have J6 : Hid (aH Wi Wh.heap.size D) := by rw [yY]; exact aH.new _ _
         clear yY
         have Ee := Lib.hid (Eb.out.below Bi.out)
         have uN := Lib.hid (H7g.out.below Bi.out)
         have VH := Lib.hid (HMg.out.below Bi.out)
         have hsg := NW.out
         have hsh := J5.out
         have aC : Hid (∀ W', Only (fun k => k = wx.heap.size ∨ Wi.heap.size ≤ k) Wi W' → W'.cell? ⟨wx.heap.size + 1, 0, none⟩ = some (.int .u64 (aj L 0)) ∧ W'.cell? ⟨wx.heap.size + 1, 1, none⟩ = some (.int .u64 (aj L 1)) ∧ W'.cell? ⟨wx.heap.size + 1, 2, none⟩ = some (.int .u64 (aj L 2)) ∧ W'.cell? ⟨wx.heap.size + 1, 3, none⟩ = some (.int .u64 (aj L 3)) ∧ W'.cell? ⟨Wh.heap.size, 0, none⟩ = some (.int .u64 (aj D 0)) ∧ W'.cell? ⟨Wh.heap.size, 1, none⟩ = some (.int .u64 (aj D 1)) ∧ W'.cell? ⟨Wh.heap.size, 2, none⟩ = some (.int .u64 (aj D 2)) ∧ W'.cell? ⟨Wh.heap.size, 3, none⟩ = some (.int .u64 (aj D 3))) := fun W' ho => by
          have m1 := Ee.out.only ho (by have := Ee.out.lt; omega)
          have m2 := J6.out.only ho (by have := J6.out.lt; omega)
          exact ⟨m1.c0, m1.c1, m1.c2, m1.c3, m2.c0, m2.c1, m2.c2, m2.c3⟩
         have Kd : Hid (Below Wi.heap.size Wi Wi.drew) := (Below.refl _ _).drew
         have o0 := uN.out.c4
         have o1 := uN.out.c5
         have o2 := uN.out.c6
         have o3 := uN.out.c7
         gi_wp2
         refine uy (S := (fun W' => W'.cell? ⟨wx.heap.size + 1, 0, none⟩ = some (.int .u64 (aj L 0)) ∧ W'.cell? ⟨wx.heap.size + 1, 1, none⟩ = some (.int .u64 (aj L 1)) ∧ W'.cell? ⟨wx.heap.size + 1, 2, none⟩ = some (.int .u64 (aj L 2)) ∧ W'.cell? ⟨wx.heap.size + 1, 3, none⟩ = some (.int .u64 (aj L 3)) ∧ W'.cell? ⟨Wh.heap.size, 0, none⟩ = some (.int .u64 (aj D 0)) ∧ W'.cell? ⟨Wh.heap.size, 1, none⟩ = some (.int .u64 (aj D 1)) ∧ W'.cell? ⟨Wh.heap.size, 2, none⟩ = some (.int .u64 (aj D 2)) ∧ W'.cell? ⟨Wh.heap.size, 3, none⟩ = some (.int .u64 (aj D 3)))) (m := 11) (by kernel_rfl) (by kernel_rfl) (aC.out _ (Only.of_below Kd.out)) (fun hHd => ?_)
         refine aB (i := 0) (v := ?Om) rfl (by kernel_rfl) (by decide) (by kernel_rfl) (by kernel_rfl) (by kernel_rfl) (fun _ _ _ h => h) (Or.inl ⟨by rfl, ?yJ⟩) (by assumption) ?_
         case yJ => (intro w hSw; (try dsimp only at hSw); go_simp; first | done | with_reducible rfl)
         try simp only [Act.put, g1, g2, g3]
         refine aB (i := 1) (v := ?Oo) rfl (by kernel_rfl) (by decide) (by kernel_rfl) (by kernel_rfl) (by kernel_rfl) (fun _ _ _ h => h) (Or.inl ⟨by rfl, ?yK⟩) (by assumption) ?_
         case yK => (intro w hSw; (try dsimp only at hSw); go_simp; first | done | with_reducible rfl)
         try simp only [Act.put, g1, g2, g3]
         refine aB (i := 2) (v := ?Oq) rfl (by kernel_rfl) (by decide) (by kernel_rfl) (by kernel_rfl) (by kernel_rfl) (fun _ _ _ h => h) (Or.inl ⟨by rfl, ?yL⟩) (by assumption) ?_
         case yL => (intro w hSw; (try dsimp only at hSw); go_simp; first | done | with_reducible rfl)
         try simp only [Act.put, g1, g2, g3]
         refine aB (i := 4) (v := ?Ou) rfl (by kernel_rfl) (by decide) (by kernel_rfl) (by kernel_rfl) (by kernel_rfl) (fun _ _ _ h => h) (Or.inl ⟨by rfl, ?yM⟩) (by assumption) ?_
         case yM => (intro w hSw; (try dsimp only at hSw); go_simp; first | done | with_reducible rfl)
         try simp only [Act.put, g1, g2, g3]
         refine aB (i := 6) (v := ?Ov) rfl (by kernel_rfl) (by decide) (by kernel_rfl) (by kernel_rfl) (by kernel_rfl) (fun _ _ _ h => h) (Or.inl ⟨by rfl, ?yN⟩) (by assumption) ?_
         case yN => (intro w hSw; (try dsimp only at hSw); go_simp; first | done | with_reducible rfl)
         try simp only [Act.put, g1, g2, g3]
         refine aB (i := 7) (v := ?OA) rfl (by kernel_rfl) (by decide) (by kernel_rfl) (by kernel_rfl) (by kernel_rfl) (fun _ _ _ h => h) (Or.inl ⟨by rfl, ?yO⟩) (by assumption) ?_
         case yO => (intro w hSw; (try dsimp only at hSw); go_simp; first | done | with_reducible rfl)
         try simp only [Act.put, g1, g2, g3]
         refine aG (i := 3) (by kernel_rfl) rfl (fun K hK => ?_)
         go_simp
         refine hK.out _ _ (fun _ => aC.out _ (Only.of_below Kd.out)) (fun hHd => ?_)
         have hHd := hHd (by decide)
         clear hK K
         try simp only [Act.put, g1, g2, g3]
         clear o0 o1 o2 o3
         refine aG (i := 5) (by kernel_rfl) rfl (fun K hK => ?_)
         go_simp
         go_at_call 109
         refine (yu _ _).mono ?_
         rintro e Wj ⟨rfl, hb⟩
         have Kj := Lib.hid (Kd.out.trans (hb.mono Kd.out.size))
         clear hb
         go_wp2_with fail
         refine hK.out _ _ (fun _ => aC.out _ (Only.of_below Kj.out)) (fun hHd => ?_)
         have hHd := hHd (by decide)
         clear hK K
         try simp only [Act.put, g1, g2, g3]
         refine aB (i := 9) (v := ?OD) rfl (by kernel_rfl) (by decide) (by kernel_rfl) (by kernel_rfl) (by kernel_rfl) (fun _ _ _ h => h) (Or.inl ⟨by rfl, ?yP⟩) (by assumption) ?_
         case yP => (intro w hSw; (try dsimp only at hSw); go_simp; first | done | with_reducible rfl)
         try simp only [Act.put, g1, g2, g3]
         refine aG (i := 8) (by kernel_rfl) rfl (fun K hK => ?_)
         go_simp
         go_at_call 133
         refine (mJ _ _).mono ?_
         rintro e Wk ⟨rfl, hb⟩
         have Kk := Lib.hid (Kj.out.trans (hb.mono Kj.out.size))
         clear hb
         go_wp2_with fail
         refine hK.out _ _ (fun _ => aC.out _ (Only.of_below Kk.out)) (fun hHd => ?_)
         have hHd := hHd (by decide)
         clear hK K
         try simp only [Act.put, g1, g2, g3]
         have mA := uN.out.below Kk.out
         have z0 := mA.c4
         have fz0 := mA.frozen 4
         have z1 := mA.c5
         have gz := mA.frozen 5
         have z2 := mA.c6
         have gB := mA.frozen 6
         have z3 := mA.c7
         have fz3 := mA.frozen 7
         have mB := Lib.hid (mA.ahJ (aO W1 D))
         have OK : Hid (Only (fun k => k = wx.heap.size ∨ Wi.heap.size ≤ k) Wi ((((Wk.setCell ⟨wx.heap.size, 4, none⟩ (.int .u64 (aj (aO W1 D) 0))).setCell ⟨wx.heap.size, 5, none⟩ (.int .u64 (aj (aO W1 D) 1))).setCell ⟨wx.heap.size, 6, none⟩ (.int .u64 (aj (aO W1 D) 2))).setCell ⟨wx.heap.size, 7, none⟩ (.int .u64 (aj (aO W1 D) 3)))) := dw (S := fun k => k = wx.heap.size ∨ Wi.heap.size ≤ k) (Only.of_below Kk.out |>.mono fun k hk => by exact hk) (.inl rfl) (.int .u64 (aj (aO W1 D) 0)) (.int .u64 (aj (aO W1 D) 1)) (.int .u64 (aj (aO W1 D) 2)) (.int .u64 (aj (aO W1 D) 3)) 4
         clear mA hHd
         refine aG (i := 10) (by kernel_rfl) rfl (fun K hK => ?_)
         go_simp
         refine hK.out _ _ (fun _ => aC.out _ OK.out) (fun hHd => ?_)
         have hHd := hHd (by decide)
         clear hK K
         try simp only [Act.put, g1, g2, g3]
         clear hHd z0 fz0 z1 gz z2 gB z3 fz3
         have J7 := Lib.hid ((Ee.out.below Kk.out).only (dw (S := fun k => k = wx.heap.size) (Only.refl _ Wk) (g := wx.heap.size) rfl (.int .u64 (aj (aO W1 D) 0)) (.int .u64 (aj (aO W1 D) 1)) (.int .u64 (aj (aO W1 D) 2)) (.int .u64 (aj (aO W1 D) 3)) 4) (by omega))
         have J8 := Lib.hid ((VH.out.below Kk.out).only (dw (S := fun k => k = wx.heap.size) (Only.refl _ Wk) (g := wx.heap.size) rfl (.int .u64 (aj (aO W1 D) 0)) (.int .u64 (aj (aO W1 D) 1)) (.int .u64 (aj (aO W1 D) 2)) (.int .u64 (aj (aO W1 D) 3)) 4) (by omega))
         obtain ⟨Wo, yZ⟩ : ∃ y, y = ((((Wk.setCell ⟨wx.heap.size, 4, none⟩ (.int .u64 (aj (aO W1 D) 0))).setCell ⟨wx.heap.size, 5, none⟩ (.int .u64 (aj (aO W1 D) 1))).setCell ⟨wx.heap.size, 6, none⟩ (.int .u64 (aj (aO W1 D) 2))).setCell ⟨wx.heap.size, 7, none⟩ (.int .u64 (aj (aO W1 D) 3))) := ⟨_, rfl⟩
         have lg : Hid (aH Wo (wx.heap.size + 1) L) := by rw [yZ]; exact J7.out
         have VI : Hid (dH Wo kb (gQ ah O p)) := by rw [yZ]; exact J8.out
         rw [← yZ] at mB OK ⊢
         clear yZ J7 J8 aC
         have z0 := lg.out.c0
         have fz0 := lg.out.frozen 0
         have z1 := lg.out.c1
         have gz := lg.out.frozen 1
         have z2 := lg.out.c2
         have gB := lg.out.frozen 2
         have z3 := lg.out.c3
         have fz3 := lg.out.frozen 3
         have mC := Lib.hid (lg.out.gV (aQ L D))
         refine aG (i := 11) (by kernel_rfl) rfl (fun K hK => ?_)
         go_simp
         refine hK.out _ _ (fun h => absurd h (by decide)) (fun _ => ?_)
         clear hK K
         try simp only [Act.put, g1, g2, g3]
         refine dA (by kernel_rfl) ?_ _
         refine uw ?_
         clear z0 fz0 z1 gz z2 gB z3 fz3
         gi_wp2
         have P4 := dw (S := fun k => k = wx.heap.size + 1) (Only.refl _ Wo) (g := wx.heap.size + 1) rfl (.int .u64 (aj (aQ L D) 0)) (.int .u64 (aj (aQ L D) 1)) (.int .u64 (aj (aQ L D) 2)) (.int .u64 (aj (aQ L D) 3)) 0
         refine ⟨?_, rfl, aQ L D, W0, (aO W1 D), fun hk => ?_, ?_, mC.out, mB.out.only P4 (by omega), VI.out.only P4 (by omega)⟩
         · have q1 := Bi.out.size
           have q2 := PC.out.size
           exact ((((PC.out.trans (Only.of_below Bi.out)).mono fun k hk => hk.imp .inl id).trans (OK.out.mono fun k hk => by omega))).trans (P4.mono fun k hk => .inl (.inr (.inr hk)))
         · obtain ⟨st, hst⟩ := HH.out (HPX.out hk)
           have hg := HG.out
           have hs := GY.out.one hg.rows.eu (fun v hv => HL.out.own v (by rw [← hg.len]; exact hv)) hst
           have hd := Ed.out
           rw [← hd]
           exact hs
         · obtain ⟨v, hv⟩ := abv.out
           have sG := kL.out v hv
           have hvn := HLn.out v sG
           have hg := HG.out
           have ha : aN ah O ((1 : Nat) : Int) L Z v = true := (qL hg.rows.eu (by rw [hg.len]; exact hvn)).2 ⟨sG, .inl hv⟩
           rw [Ed.out] at ha
           exact wL (n := 256) (fun u _ hu => (eP.1 hu).1) (v := v) (by omega) sG (not_true fun hh => by
            have := (eP.1 hh).2
            rw [ha] at this
            cases this)
    case done =>
     intro D W hD hR hO hK
     obtain ⟨v, hv⟩ := ahP.out
     have hvn := lY.out v hv
     have hpv := HL.out.pos v hvn
     obtain ⟨q, hq⟩ : ∃ q : Nat, p v = (q : Int) := ⟨(p v).toNat, by omega⟩
     have VB : q < 41 := by omega
     exact absurd hq (hR.1 ⟨q, VB⟩ (by unfold iw; simp) v hv)
    case stop =>
     rintro D c pre W hD hpre ⟨rfl, L', X0, X1, h1, h2, h3, h4, h5⟩ hO hK
     replace h1 := h1 hpre
     clear hpre
     have hmk : ∀ k, (k = kb ∨ k = wx.heap.size ∨ k = wx.heap.size + 1) ∨ w2.heap.size ≤ k → k < w2.heap.size → w2.heap[k]? ≠ some (.deferred (some [])) := fun k hk hkl => by
      rcases hk with (rfl | rfl | rfl) | hk
      · obtain ⟨es, c, hh, _⟩ := HMd.out
        rw [hh]; simp
      · exact DJ H7d.out rfl
      · exact DJ H8d.out rfl
      · omega
     have OH : Hid (fQ W wl.heap.size ds) := VA.out.only hO hmk
     have U7 : Hid (fQ W wl.heap.size ({ target := .collected D, args := #[] } :: ds)) := ⟨⟨D, rfl, by omega, hK, VA.out.fresh fun d hd => by
      obtain ⟨E', e1, e2⟩ := VA.out.lt d hd
      exact ⟨E', e1, by omega⟩⟩, OH.out⟩
     have O9 : Hid (Only (fun k => k = kb ∨ wx.heap.size ≤ k) wl W) := OLd.out.trans (hO.mono fun k hk => by omega)
     have q1 := Lib.hid h1
     have q3 := Lib.hid h3
     have q4 := Lib.hid h4
     have q5 := Lib.hid h5
     have q2 := Lib.hid h2
     clear h1 h2 h3 h4 h5 hO hK hmk
     go_wp2
     go_roundg (aU L' 256).length
     case measure => rw [hgk]; exact q2.out
     case rel => exact ⟨L', X0, X1, rfl, q1.out, q3.out, q4.out, q5.out, O9.out, U7.out⟩
end
end Go.Proofs.YtglbkbiphcgidaaDoor
