/-
  Contract: attract.
-/
import Derived.Deep.LoopGhost
import Derived.Deep.DeepCutAuto
import Derived.Test.YtphkgnpkcfbnkabDoorPk13
namespace Go.Proofs.YtphkgnpkcfbnkabDoor
section
open Go.RowKit Go.Shelf
attribute [local go_sem] Oper.semAt_some

/-- The marks of the loops over functions that have ended: each in a block of its own, from B on. -/
def MarksAt (w : World) (B : Nat) : List Deferred → Prop
  | [] => True
  | d :: ds => (∃ D, d = { target := .collected D, args := #[] } ∧ B ≤ D ∧ w.heap[D]? = some (.deferred (some [])) ∧ ∀ d' ∈ ds, d' ≠ d) ∧ MarksAt w B ds

theorem MarksAt.only {S : Nat → Prop} {w w' : World} {B : Nat} (hk : Only S w w') (hS : ∀ D, S D → D < w.heap.size → w.heap[D]? ≠ some (.deferred (some []))) : ∀ {ds : List Deferred}, MarksAt w B ds → MarksAt w' B ds
  | [], _ => trivial
  | d :: ds, h => by
    obtain ⟨⟨D, hd, hB, hD, hne⟩, ht⟩ := h
    have hlt := (Array.getElem?_eq_some_iff.1 hD).1
    exact ⟨⟨D, hd, hB, (hk.block D hlt fun hs => hS D hs hlt hD).trans hD, hne⟩, MarksAt.only hk hS ht⟩

theorem not_mark {w : World} {g : Nat} {o : Obj} (h : w.heap[g]? = some o) (ho : o.isCells = true) : w.heap[g]? ≠ some (.deferred (some [])) := fun e => by
  rw [h] at e
  cases e
  cases ho

theorem MarksAt.fresh {w : World} {B D : Nat} : ∀ {ds : List Deferred}, MarksAt w B ds → (∀ d ∈ ds, ∃ E, d = { target := .collected E, args := #[] } ∧ E < D) → ∀ d' ∈ ds, d' ≠ { target := .collected D, args := #[] }
  | ds, _, h, d', hd', e => by
    obtain ⟨E, h1, h2⟩ := h d' hd'
    rw [h1] at e
    injection e with e1 _
    injection e1 with e2
    omega

theorem MarksAt.lt {w : World} {B : Nat} : ∀ {ds : List Deferred}, MarksAt w B ds → ∀ d ∈ ds, ∃ E, d = { target := .collected E, args := #[] } ∧ E < w.heap.size
  | [], _, d, h => by cases h
  | x :: ds, h, d, hd => by
    obtain ⟨⟨D, hx, _, hD, _⟩, ht⟩ := h
    rcases List.mem_cons.1 hd with rfl | hd
    · exact ⟨D, hx, (Array.getElem?_eq_some_iff.1 hD).1⟩
    · exact MarksAt.lt ht d hd

/-- A function whose result is a mask's variable leaves, whatever loops over functions have ended in it. -/
theorem leaves_marks {fn : Func} {p : Tmp} {tmps : Array Value} {g B : Nat} {K : Nat → Bool} {R : Ending → World → Prop} (hr : fn.results = #[.cell p 67]) (hp : tmps.getD p undef = .pointer (some ⟨g, 0, none⟩)) : ∀ {ds : List Deferred} {W : World},
    MaskAt W g K → MarksAt W B ds → (∀ W', Only (fun k => B ≤ k ∧ k ≠ g) W W' → R (.returned (maskV K)) W') → bodyPostM Fence.wide 4 Tryd.prog fn R .ret { tmps := tmps, defers := ds } W
  | [], W, hM, _, hR => by
    exact ⟨_, results_cell_row hr tmps _ g _ _ _ (.array 4 65) hp hM (by kernel_rfl) rfl (by kernel_rfl), hR W (Only.refl _ _)⟩
  | d :: ds, W, hM, hK, hR => by
    obtain ⟨⟨D, hd, hB, hD, hne⟩, ht⟩ := hK
    subst hd
    have hgD : D ≠ g := fun e => by
      unfold MaskAt at hM
      rw [← e, hD] at hM
      cases hM
    have ho : Only (fun k => B ≤ k ∧ k ≠ g) W (W.putObj D (.deferred none)) := (Only.of_grown (grownBy_putObj' W D _)).mono fun k hk => by cases hk; exact ⟨hB, hgD⟩
    have hod : Only (fun k => k = D) W (W.putObj D (.deferred none)) := (Only.of_grown (grownBy_putObj' W D _)).mono fun k hk => by cases hk; rfl
    have ht2 : ∀ {es : List Deferred}, MarksAt W B es → (∀ d' ∈ es, d' ≠ { target := .collected D, args := #[] }) → MarksAt (W.putObj D (.deferred none)) B es := fun {es} => by
      induction es with
      | nil => intro _ _; trivial
      | cons x es ih =>
        intro h hn
        obtain ⟨⟨E, hx, hBE, hE, hnx⟩, h2⟩ := h
        have hED : E ≠ D := fun e => hn x (by simp) (by rw [hx, e])
        exact ⟨⟨E, hx, hBE, (hod.block E (Array.getElem?_eq_some_iff.1 hE).1 hED).trans hE, hnx⟩, ih h2 fun d' hd' => hn d' (by simp [hd'])⟩
    have rest := leaves_marks (R := R) (g := g) (B := B) hr hp (ds := ds) (W := W.putObj D (.deferred none)) (hM.only ho fun h => h.2 rfl) (ht2 ht hne) fun W' hW => hR W' (ho.trans hW)
    exact ⟨by simp, .inl ⟨_, _, rfl, run_takeDeferred hD, rest⟩⟩

/-- The front while the vertices off the owner's are looked at. -/
noncomputable def gatB (near own sh : Nat → Bool) {J : Nat → Bool} (pre : List (MemI J)) : Nat → Bool := fun x => (near x && own x) || (pre.any (fun y => y.1 == x) && sh x)

theorem gat_nil {near own sh J : Nat → Bool} : gatB near own sh ([] : List (MemI J)) = andB near own := funext fun x => by unfold gatB andB; simp

theorem gat_yes {near own sh J : Nat → Bool} {pre : List (MemI J)} {x : MemI J} (h : sh x.1 = true) : gatB near own sh (pre ++ [x]) = orB (gatB near own sh pre) (oneB x.1) := funext fun y => by
  unfold gatB orB oneB
  by_cases e : x.1 = y
  · subst e; simp [h]
  · have e2 : ¬ y = x.1 := fun h => e h.symm
    simp [e2, beq_false_of_ne e]

theorem gat_no {near own sh J : Nat → Bool} {pre : List (MemI J)} {x : MemI J} (h : sh x.1 = false) : gatB near own sh (pre ++ [x]) = gatB near own sh pre := funext fun y => by
  unfold gatB
  by_cases e : x.1 = y
  · subst e; simp [h]
  · simp [beq_false_of_ne e]

theorem gat_all {E Pd : Nat → Nat → Bool} {Ow I A F : Nat → Bool} {n : Nat} (hI : ∀ v, I v = true → v < n) (hn : n ≤ 256) {xs : List (MemI (lessB (nearB Pd I A F) (andB (nearB Pd I A F) Ow)))} (h : valI xs = markedK (lessB (nearB Pd I A F) (andB (nearB Pd I A F) Ow)) 256) :
    gatB (nearB Pd I A F) Ow (shutB E I A) xs = nextB E Pd Ow I A F := funext fun x => by
  rw [Bool.eq_iff_iff]
  unfold gatB nextB
  simp only [Bool.or_eq_true, Bool.and_eq_true, List.any_eq_true, beq_iff_eq]
  constructor
  · rintro (⟨h1, h2⟩ | ⟨⟨y, _, hy⟩, h2⟩)
    · exact ⟨h1, .inl h2⟩
    · have h3 := y.2.2
      rw [hy] at h3
      unfold lessB at h3
      simp only [Bool.and_eq_true] at h3
      exact ⟨h3.1, .inr h2⟩
  · rintro ⟨h1, h2⟩
    cases ho : Ow x with
    | true => exact .inl ⟨h1, rfl⟩
    | false =>
      rw [ho] at h2
      have h3 : shutB E I A x = true := by simpa using h2
      have hx : x < 256 := by
        have h4 := h1
        unfold nearB lessB andB at h4
        simp only [Bool.and_eq_true] at h4
        have := hI x h4.1.2
        omega
      obtain ⟨y, hy, hyx⟩ := mem_vals h hx (by unfold lessB andB; rw [h1, ho]; rfl)
      exact .inr ⟨⟨y, hy, hyx⟩, h3⟩

/-- What a new block holds at first does not matter to the blocks before. -/
theorem alloc_swap {w X : World} {o o' : Obj} (h : Below w.heap.size w (X.alloc o)) (hg : w.heap.size ≤ X.heap.size) : Below w.heap.size w (X.alloc o') :=
  ⟨h.os, h.tape, h.output, Nat.le_trans h.size (by simp), fun i hi => ((below1 X o').block i (by omega)).trans (((below1 X o).block i (by omega)).symm.trans (h.block i hi))⟩

/-- What holds behind a piece of code, said in one relation. -/
theorem wp_cut {P : Program} {c : Code} {Q : Exit → Act → World → Prop} {a : Act} {w : World} (R : Act → World → Prop) (h1 : Code.wp P c (Exit.then R fun _ _ _ => False) a w) (h2 : ∀ a' w', R a' w' → Q .normal a' w') : Code.wp P c Q a w :=
  wp_mono h1 fun e a' w' h => by
    cases e with
    | normal => exact h2 _ _ h
    | _ => exact h.elim

set_option linter.unusedSimpArgs false in
set_option maxRecDepth 100000 in
set_option maxHeartbeats 8000000 in
theorem attract_is {w : World} {b n nb pb kb i : Nat} {Ow Lv E Pd : Nat → Nat → Bool} {zss : List (List Int)} {O : List Int} {I G : Nat → Bool} (hT : TabW w) (hR : RecAt w b n nb pb kb Ow Lv E Pd) (hG : GameE zss O n Ow E Pd) (hi : i < 2) (hI : ∀ v, I v = true → v < n) (hGI : ∀ v, G v = true → I v = true) :
    Calls Tryd.prog 135 #[.pointer (some ⟨b, 0, none⟩), .int .i64 i, maskV I, maskV G] w fun e w' => e = .returned (maskV (attrB zss O i I G)) ∧ Below w.heap.size w w' := by
  have HG := Lib.hid hG
  have HI := Lib.hid hI
  have HGI := Lib.hid hGI
  have HEnv : Hid (∀ W', Only (fun k => w.heap.size ≤ k) w W' → TabW W' ∧ RecAt W' b n nb pb kb Ow Lv E Pd) := fun W' ho =>
    ⟨hT.only ho (by have := hT.lt; omega), hR.only ho (by have := hR.lt; omega) (by have := hR.lt; omega) (by have := hR.lt; omega)⟩
  have hn := hR.small
  clear hT hR hG hI hGI
  refine (callsIn_wide (n := 4)).1 ?_
  refine callsIn_of_wp_marks Tryd.func135 rfl trivial ?_ rfl
  simp only [Tryd.ntmps135, List.size_toArray, List.length_cons, List.length_nil, Nat.reduceAdd, Nat.reduceSub, Array.replicate_succ, Array.replicate_zero, List.push_toArray, List.append_toArray, List.nil_append, List.cons_append]
  refine wpIn_wide.2 ?_
  go_wp2
  obtain ⟨w1, hw1⟩ : ∃ y, y = ((((((w.alloc (.cells #[.pointer (some ⟨b, 0, none⟩)] 79)).alloc (.cells #[.int .u64 (maskW I 0), .int .u64 (maskW I 1), .int .u64 (maskW I 2), .int .u64 (maskW I 3)] 67)).alloc (.cells #[.int .u64 (maskW G 0), .int .u64 (maskW G 1), .int .u64 (maskW G 2), .int .u64 (maskW G 3)] 67)).alloc (.cells #[.int .u64 0, .int .u64 0, .int .u64 0, .int .u64 0] 67)).alloc (.cells #[.int .u64 (maskW G 0), .int .u64 (maskW G 1), .int .u64 (maskW G 2), .int .u64 (maskW G 3)] 67)).alloc (.cells #[.int .u64 (maskW G 0), .int .u64 (maskW G 1), .int .u64 (maskW G 2), .int .u64 (maskW G 3)] 67)) := ⟨_, rfl⟩
  rw [← hw1]
  have HB : Hid (Below w.heap.size w w1) := by
    rw [hw1]
    exact (((((Below.refl _ _).alloc (Nat.le_refl _) _).alloc (by simp) _).alloc (by simp; omega) _).alloc (by simp; omega) _).alloc (by simp; omega) _ |>.alloc (by simp; omega) _
  have bP : Hid (Boxed w1 w.heap.size 79 (.pointer (some ⟨b, 0, none⟩))) := by
    rw [hw1]; exact bx_below (bx_below (bx_below (bx_below (bx_below (Boxed.new w 79 _) (below1 _ _)) (below1 _ _)) (below1 _ _)) (below1 _ _)) (below1 _ _)
  have bI : Hid (MaskAt w1 (w.heap.size + 1) I) := by
    rw [hw1]; exact ((((mask_new_at I _ (by simp)).below (below1 _ _)).below (below1 _ _)).below (below1 _ _)).below (below1 _ _)
  have bR : Hid (MaskAt w1 (w.heap.size + 1 + 1 + 1) (fun _ => false)) := by
    rw [hw1, mask_zero]; exact ((mask_new_at _ _ (by simp)).below (below1 _ _)).below (below1 _ _)
  have bA : Hid (MaskAt w1 (w.heap.size + 1 + 1 + 1 + 1) G) := by rw [hw1]; exact (mask_new_at _ _ (by simp)).below (below1 _ _)
  have bF : Hid (MaskAt w1 (w.heap.size + 1 + 1 + 1 + 1 + 1) G) := by rw [hw1]; exact mask_new_at _ _ (by simp)
  have HS1 : Hid (w1.heap.size = w.heap.size + 6) := by rw [hw1]; simp [Hid]
  clear hw1
  refine wp_loop_ghost_k (fun gk a' wr => ∃ u10 u11 u12 u15 u16 u17 u18 u19 u20 u21 u22 u23 u24 u25 u26 u27 u28 u29 u30 u31 u32 u33 u34 u35 u36 u37 u38 u39 u40 u41 u42 u43 u44 u45 u46 u47 u48 u49 u50 u51 u52 u53 u54 u55 u56 u57 u58 u59 u60 u61, ∃ (ds : List Deferred), (∃ (gF : Nat) (A F : Nat → Bool), u10 = .pointer (some ⟨gF, 0, none⟩) ∧ w.heap.size + 1 + 1 + 1 + 1 + 1 ≤ gF ∧ gk = waitN A F ∧ Hid (FroI zss O i I G A F) ∧ Hid (MaskAt wr (w.heap.size + 1 + 1 + 1 + 1) A) ∧ Hid (MaskAt wr gF F) ∧ Hid (Only (fun k => k = w.heap.size + 1 + 1 + 1 + 1 ∨ w.heap.size + 1 + 1 + 1 + 1 + 1 ≤ k) w1 wr) ∧ Hid (MarksAt wr w1.heap.size ds)) ∧ a' = { tmps := #[.pointer (some ⟨b, 0, none⟩), .int .i64 i, maskV I, maskV G, .pointer (some ⟨w.heap.size, 0, none⟩), undef, .pointer (some ⟨w.heap.size + 1, 0, none⟩), .pointer (some ⟨w.heap.size + 1 + 1, 0, none⟩), .pointer (some ⟨w.heap.size + 1 + 1 + 1, 0, none⟩), .pointer (some ⟨w.heap.size + 1 + 1 + 1 + 1, 0, none⟩), u10, u11, u12, .agg #[.int .u64 (maskW G 0), .int .u64 (maskW G 1), .int .u64 (maskW G 2), .int .u64 (maskW G 3)], .agg #[.int .u64 (maskW G 0), .int .u64 (maskW G 1), .int .u64 (maskW G 2), .int .u64 (maskW G 3)], u15, u16, u17, u18, u19, u20, u21, u22, u23, u24, u25, u26, u27, u28, u29, u30, u31, u32, u33, u34, u35, u36, u37, u38, u39, u40, u41, u42, u43, u44, u45, u46, u47, u48, u49, u50, u51, u52, u53, u54, u55, u56, u57, u58, u59, u60, u61, undef], defers := ds }) (waitN G G) ?start ?round
  case start => exact ⟨_, _, _, _, _, _, _, _, _, _, _, _, _, _, _, _, _, _, _, _, _, _, _, _, _, _, _, _, _, _, _, _, _, _, _, _, _, _, _, _, _, _, _, _, _, _, _, _, _, _, [], ⟨_, _, _, rfl, Nat.le_refl _, rfl, FroI.start HG.out.rows.inG (fun v hv => by rw [HG.out.len]; exact HI.out v hv) HGI.out, bA, bF, Only.refl _ _, trivial⟩, rfl⟩
  case round =>
    intro gk _ wr hinv
    obtain ⟨u10, u11, u12, u15, u16, u17, u18, u19, u20, u21, u22, u23, u24, u25, u26, u27, u28, u29, u30, u31, u32, u33, u34, u35, u36, u37, u38, u39, u40, u41, u42, u43, u44, u45, u46, u47, u48, u49, u50, u51, u52, u53, u54, u55, u56, u57, u58, u59, u60, u61, ds, hrel, ha⟩ := hinv
    subst ha
    intro JJ KK hJJ hKK
    obtain ⟨gF, A, F, rfl, hgF, hgk, HFI, HM, HF, HO, HMK⟩ := hrel
    have hs1 := HS1.out
    have hsr : w1.heap.size ≤ wr.heap.size := HO.out.size
    have bPw := Lib.hid (bx_only bP.out HO.out (by omega))
    have bIw := Lib.hid (bI.out.only HO.out (by omega))
    have bRw := Lib.hid (bR.out.only HO.out (by omega))
    have a0 := HF.out.c0
    have a1 := HF.out.c1
    have a2 := HF.out.c2
    have a3 := HF.out.c3
    cases h0 : noneB F with
    | true =>
      have HC := Lib.hid (fun w => mask_isEmpty (w := w) F h0)
      have HA : Hid (A = attrB zss O i I G) := HFI.out.done HG.out.rows.inG (fun v hv => by rw [HG.out.len]; exact HI.out v hv) fun v => by
        cases hF : F v with
        | false => rfl
        | true =>
          have h1 := HI.out v (attrB_sub (HFI.out.sound v (HFI.out.front v hF)))
          have h2 := noneB_iff.1 h0 v (by omega)
          rw [hF] at h2; exact h2
      clear h0 hgk
      go_wp2_with (go_at_call 131; refine (HC.out _).mono ?_; rintro e wb ⟨rfl, hb⟩; have Kb := Lib.hid hb; have z1 := (HM.out.below hb).c0; have z2 := (HM.out.below hb).c1; have z3 := (HM.out.below hb).c2; have z4 := (HM.out.below hb).c3; have q1 := (bRw.out.below hb).frozen 0; have q2 := (bRw.out.below hb).frozen 1; have q3 := (bRw.out.below hb).frozen 2; have q4 := (bRw.out.below hb).frozen 3; have y1 := (bRw.out.below hb).c0; have y2 := (bRw.out.below hb).c1; have y3 := (bRw.out.below hb).c2; have y4 := (bRw.out.below hb).c3; clear hb)
      rw [← HA.out]
      have hO2 := only_put4 (S := fun k => w.heap.size ≤ k) ((HO.out.mono fun k hk => by omega).trans (Only.of_below Kb.out)) (g := w.heap.size + 1 + 1 + 1) (by omega) (.int .u64 (maskW A 0)) (.int .u64 (maskW A 1)) (.int .u64 (maskW A 2)) (.int .u64 (maskW A 3)) 0
      have hMK := (HMK.out.only (S := fun _ => False) (Only.of_below Kb.out) fun _ h => h.elim).only (only_put4 (S := fun k => k = w.heap.size + 1 + 1 + 1) (Only.refl _ _) (g := w.heap.size + 1 + 1 + 1) rfl (.int .u64 (maskW A 0)) (.int .u64 (maskW A 1)) (.int .u64 (maskW A 2)) (.int .u64 (maskW A 3)) 0) fun D hD _ => by rw [hD]; exact not_mark (bRw.out.below Kb.out) rfl
      exact leaves_marks (g := w.heap.size + 1 + 1 + 1) (B := w1.heap.size) rfl rfl ((bRw.out.below Kb.out).put4 A) hMK fun W' ho => ⟨rfl, HB.out.trans ((hO2.trans (ho.mono fun k hk => by omega)).below (by omega) (fun k h => h))⟩
    | false => 
      have HC := Lib.hid (fun w => mask_isEmpty (w := w) F h0)
      have HFn : Hid (∀ v, F v = true → v < n) := fun v hv => HI.out v (attrB_sub (HFI.out.sound v (HFI.out.front v hv)))
      have H0 := Lib.hid h0
      clear h0
      go_wp2_with (go_at_call 131; refine (HC.out _).mono ?_; rintro e wb ⟨rfl, hb⟩)
      have Kb := Lib.hid hb
      have HM2 := Lib.hid (HM.out.below hb)
      have HF2 := Lib.hid (HF.out.below hb)
      have HI2 := Lib.hid (bIw.out.below hb)
      have bP2 := Lib.hid (bx_below bPw.out hb)
      have bR2 := Lib.hid (bRw.out.below hb)
      have HMK2 : Hid (MarksAt wb w1.heap.size ds) := HMK.out.only (S := fun _ => False) (Only.of_below hb) fun _ h => h.elim
      have O1 : Hid (Only (fun k => w.heap.size ≤ k) w wb) := (Only.of_below HB.out).trans ((HO.out.mono fun k hk => by omega).trans (Only.of_below hb))
      have O2 : Hid (Only (fun k => k = w.heap.size + 1 + 1 + 1 + 1 ∨ w.heap.size + 1 + 1 + 1 + 1 + 1 ≤ k) w1 wb) := HO.out.trans (Only.of_below hb)
      have HSb : Hid (wr.heap.size ≤ wb.heap.size) := hb.size
      have HSw : Hid (∀ W', Below wb.heap.size wb W' → W'.cell? ⟨w.heap.size, 0, none⟩ = some (.pointer (some ⟨b, 0, none⟩)) ∧ W'.cell? ⟨b, 173, none⟩ = some (.slice (some ⟨pb, 0, none⟩) n n) ∧ W'.cell? ⟨gF, 0, none⟩ = some (.int .u64 (maskW F 0)) ∧ W'.cell? ⟨gF, 1, none⟩ = some (.int .u64 (maskW F 1)) ∧ W'.cell? ⟨gF, 2, none⟩ = some (.int .u64 (maskW F 2)) ∧ W'.cell? ⟨gF, 3, none⟩ = some (.int .u64 (maskW F 3)) ∧ W'.cell? ⟨w.heap.size + 1, 0, none⟩ = some (.int .u64 (maskW I 0)) ∧ W'.cell? ⟨w.heap.size + 1, 1, none⟩ = some (.int .u64 (maskW I 1)) ∧ W'.cell? ⟨w.heap.size + 1, 2, none⟩ = some (.int .u64 (maskW I 2)) ∧ W'.cell? ⟨w.heap.size + 1, 3, none⟩ = some (.int .u64 (maskW I 3)) ∧ W'.cell? ⟨w.heap.size + 1 + 1 + 1 + 1, 0, none⟩ = some (.int .u64 (maskW A 0)) ∧ W'.cell? ⟨w.heap.size + 1 + 1 + 1 + 1, 1, none⟩ = some (.int .u64 (maskW A 1)) ∧ W'.cell? ⟨w.heap.size + 1 + 1 + 1 + 1, 2, none⟩ = some (.int .u64 (maskW A 2)) ∧ W'.cell? ⟨w.heap.size + 1 + 1 + 1 + 1, 3, none⟩ = some (.int .u64 (maskW A 3))) := fun W' hb => by
        have m1 := HF2.out.below hb
        have m2 := HI2.out.below hb
        have m3 := HM2.out.below hb
        have m4 := bx_below bP2.out hb
        have m5 := (HEnv.out _ (O1.out.trans (Only.of_below hb))).2.preds
        exact ⟨m4.cell, m5, m1.c0, m1.c1, m1.c2, m1.c3, m2.c0, m2.c1, m2.c2, m2.c3, m3.c0, m3.c1, m3.c2, m3.c3⟩
      have Kd : Hid (Below wb.heap.size wb wb.drew) := (Below.refl _ _).drew
      clear hb a0 a1 a2 a3
      go_wp2_with fail
      refine wp_cut (fun a' wx => ∃ gN u12 u15 u16 u17 u18 u19 u20 u21 u22 u23 u24 u25 u26 u27 u28 u29 u30 u31 u32 u33 u34 u35 u36 u37 u38 u39 u40 u41 u42 u43 u44 u45 u46 u47 u48 u49 u50 u51 u52 u53 u54 u55 u56 u57 u58 u59 u60 u61, (wb.heap.size ≤ gN ∧ Hid (Below wb.heap.size wb wx) ∧ Hid (MaskAt wx gN (nearB Pd I A F))) ∧ a' = { tmps := #[.pointer (some ⟨b, 0, none⟩), .int .i64 i, maskV I, maskV G, .pointer (some ⟨w.heap.size, 0, none⟩), undef, .pointer (some ⟨w.heap.size + 1, 0, none⟩), .pointer (some ⟨w.heap.size + 1 + 1, 0, none⟩), .pointer (some ⟨w.heap.size + 1 + 1 + 1, 0, none⟩), .pointer (some ⟨w.heap.size + 1 + 1 + 1 + 1, 0, none⟩), .pointer (some ⟨gF, 0, none⟩), .pointer (some ⟨gN, 0, none⟩), u12, .agg #[.int .u64 (maskW G 0), .int .u64 (maskW G 1), .int .u64 (maskW G 2), .int .u64 (maskW G 3)], .agg #[.int .u64 (maskW G 0), .int .u64 (maskW G 1), .int .u64 (maskW G 2), .int .u64 (maskW G 3)], u15, u16, u17, u18, u19, u20, u21, u22, u23, u24, u25, u26, u27, u28, u29, u30, u31, u32, u33, u34, u35, u36, u37, u38, u39, u40, u41, u42, u43, u44, u45, u46, u47, u48, u49, u50, u51, u52, u53, u54, u55, u56, u57, u58, u59, u60, u61, undef], defers := ds }) ?reg5 ?rest5
      case reg5 =>
          refine wp_region_M (S := (fun W' => W'.cell? ⟨w.heap.size, 0, none⟩ = some (.pointer (some ⟨b, 0, none⟩)) ∧ W'.cell? ⟨b, 173, none⟩ = some (.slice (some ⟨pb, 0, none⟩) n n) ∧ W'.cell? ⟨gF, 0, none⟩ = some (.int .u64 (maskW F 0)) ∧ W'.cell? ⟨gF, 1, none⟩ = some (.int .u64 (maskW F 1)) ∧ W'.cell? ⟨gF, 2, none⟩ = some (.int .u64 (maskW F 2)) ∧ W'.cell? ⟨gF, 3, none⟩ = some (.int .u64 (maskW F 3)) ∧ W'.cell? ⟨w.heap.size + 1, 0, none⟩ = some (.int .u64 (maskW I 0)) ∧ W'.cell? ⟨w.heap.size + 1, 1, none⟩ = some (.int .u64 (maskW I 1)) ∧ W'.cell? ⟨w.heap.size + 1, 2, none⟩ = some (.int .u64 (maskW I 2)) ∧ W'.cell? ⟨w.heap.size + 1, 3, none⟩ = some (.int .u64 (maskW I 3)) ∧ W'.cell? ⟨w.heap.size + 1 + 1 + 1 + 1, 0, none⟩ = some (.int .u64 (maskW A 0)) ∧ W'.cell? ⟨w.heap.size + 1 + 1 + 1 + 1, 1, none⟩ = some (.int .u64 (maskW A 1)) ∧ W'.cell? ⟨w.heap.size + 1 + 1 + 1 + 1, 2, none⟩ = some (.int .u64 (maskW A 2)) ∧ W'.cell? ⟨w.heap.size + 1 + 1 + 1 + 1, 3, none⟩ = some (.int .u64 (maskW A 3)))) (m := 11) (by kernel_rfl) (HSw.out _ Kd.out) (fun hHeld => ?_)
          refine wpAnyM_take (i := 0) (v := ?vm1) rfl (by kernel_rfl) (by decide) (by kernel_rfl) (by kernel_rfl) (by kernel_rfl) (fun _ _ _ h => h) (Or.inl ⟨by rfl, ?hm1⟩) (by assumption) ?_
          case hm1 => (intro w hSw; (try dsimp only at hSw); go_simp; first | done | with_reducible rfl)
          try simp only [Act.put, List.setIfInBounds_toArray, List.set_cons_zero, List.set_cons_succ]
          refine wpAnyM_take (i := 1) (v := ?vm2) rfl (by kernel_rfl) (by decide) (by kernel_rfl) (by kernel_rfl) (by kernel_rfl) (fun _ _ _ h => h) (Or.inl ⟨by rfl, ?hm2⟩) (by assumption) ?_
          case hm2 => (intro w hSw; (try dsimp only at hSw); go_simp; first | done | with_reducible rfl)
          try simp only [Act.put, List.setIfInBounds_toArray, List.set_cons_zero, List.set_cons_succ]
          refine wpAnyM_take (i := 2) (v := ?vm3) rfl (by kernel_rfl) (by decide) (by kernel_rfl) (by kernel_rfl) (by kernel_rfl) (fun _ _ _ h => h) (Or.inl ⟨by rfl, ?hm3⟩) (by assumption) ?_
          case hm3 => (intro w hSw; (try dsimp only at hSw); go_simp; first | done | with_reducible rfl)
          try simp only [Act.put, List.setIfInBounds_toArray, List.set_cons_zero, List.set_cons_succ]
          refine wpAnyM_take (i := 3) (v := ?vm4) rfl (by kernel_rfl) (by decide) (by kernel_rfl) (by kernel_rfl) (by kernel_rfl) (fun _ _ _ h => h) (Or.inl ⟨by rfl, ?hm4⟩) (by assumption) ?_
          case hm4 => (intro w hSw; (try dsimp only at hSw); go_simp; first | done | with_reducible rfl)
          try simp only [Act.put, List.setIfInBounds_toArray, List.set_cons_zero, List.set_cons_succ]
          refine wpAnyM_take (i := 4) (v := ?vm5) rfl (by kernel_rfl) (by decide) (by kernel_rfl) (by kernel_rfl) (by kernel_rfl) (fun _ _ _ h => h) (Or.inl ⟨by rfl, ?hm5⟩) (by assumption) ?_
          case hm5 => (intro w hSw; (try dsimp only at hSw); go_simp; first | done | with_reducible rfl)
          try simp only [Act.put, List.setIfInBounds_toArray, List.set_cons_zero, List.set_cons_succ]
          refine wpAnyM_take (i := 6) (v := ?vm6) rfl (by kernel_rfl) (by decide) (by kernel_rfl) (by kernel_rfl) (by kernel_rfl) (fun _ _ _ h => h) (Or.inl ⟨by rfl, ?hm6⟩) (by assumption) ?_
          case hm6 => (intro w hSw; (try dsimp only at hSw); go_simp; first | done | with_reducible rfl)
          try simp only [Act.put, List.setIfInBounds_toArray, List.set_cons_zero, List.set_cons_succ]
          refine wpAnyM_take (i := 8) (v := ?vm7) rfl (by kernel_rfl) (by decide) (by kernel_rfl) (by kernel_rfl) (by kernel_rfl) (fun _ _ _ h => h) (Or.inl ⟨by rfl, ?hm7⟩) (by assumption) ?_
          case hm7 => (intro w hSw; (try dsimp only at hSw); go_simp; first | done | with_reducible rfl)
          try simp only [Act.put, List.setIfInBounds_toArray, List.set_cons_zero, List.set_cons_succ]
          refine wpAnyM_two (i := 5) (j := 10) (by kernel_rfl) rfl rfl (fun K hK => ?_) (fun K hK => ?_)
          · skip
            go_simp
            go_at_call 156
            refine (across_is (HEnv.out _ (O1.out.trans (Only.of_below (Kd.out)))).1 (HEnv.out _ (O1.out.trans (Only.of_below (Kd.out)))).2.back HFn.out hn).mono ?_
            rintro e wx1 ⟨rfl, hb⟩
            have Kx1 := Lib.hid ((Kd.out).trans (hb.mono (Kd.out).size))
            clear hb
            go_wp2_with fail
            refine hK.out _ _ (fun _ => HSw.out _ Kx1.out) (fun hHeld => ?_)
            have hHeld := hHeld (by decide)
            clear hK K
            try simp only [Act.put, List.setIfInBounds_toArray, List.set_cons_zero, List.set_cons_succ]
            refine wpAnyM_two (i := 7) (j := 10) (by kernel_rfl) rfl rfl (fun K hK => ?_) (fun K hK => ?_)
            · skip
              go_simp
              go_at_call 75
              refine (mask_meet _ _).mono ?_
              rintro e wx2 ⟨rfl, hb⟩
              have Kx2 := Lib.hid ((Kx1.out).trans (hb.mono (Kx1.out).size))
              clear hb
              go_wp2_with fail
              refine hK.out _ _ (fun _ => HSw.out _ Kx2.out) (fun hHeld => ?_)
              have hHeld := hHeld (by decide)
              clear hK K
              try simp only [Act.put, List.setIfInBounds_toArray, List.set_cons_zero, List.set_cons_succ]
              refine wpAnyM_two (i := 9) (j := 10) (by kernel_rfl) rfl rfl (fun K hK => ?_) (fun K hK => ?_)
              · skip
                go_simp
                go_at_call 136
                refine (mask_less _ _).mono ?_
                rintro e wx3 ⟨rfl, hb⟩
                have Kx3 := Lib.hid ((Kx2.out).trans (hb.mono (Kx2.out).size))
                clear hb
                go_wp2_with fail
                refine hK.out _ _ (fun _ => HSw.out _ Kx3.out) (fun hHeld => ?_)
                have hHeld := hHeld (by decide)
                clear hK K
                try simp only [Act.put, List.setIfInBounds_toArray, List.set_cons_zero, List.set_cons_succ]
                refine wpAnyM_one (i := 10) (by kernel_rfl) rfl (fun K hK => ?_)
                go_simp
                have mx4 : Hid (MaskAt (wx3.alloc (.cells #[.int .u64 0, .int .u64 0, .int .u64 0, .int .u64 0] 67)) wx3.heap.size (fun _ => false)) := by rw [mask_zero]; exact mask_new_at _ _ rfl
                have Kx4 : Hid (Below wb.heap.size wb (wx3.alloc (.cells #[.int .u64 0, .int .u64 0, .int .u64 0, .int .u64 0] 67))) := (Kx3.out).trans ((below1 _ _).mono (Kx3.out).size)
                have gx : wb.heap.size ≤ wx3.heap.size := (Kx3.out).size
                refine hK.out _ _ (fun _ => HSw.out _ Kx4.out) (fun hHeld => ?_)
                have hHeld := hHeld (by decide)
                clear hK K
                try simp only [Act.put, List.setIfInBounds_toArray, List.set_cons_zero, List.set_cons_succ]
                have mz := Lib.hid (mx4.out.put4 (nearB Pd I A F))
                have z0 := mx4.out.c0
                have fz0 := mx4.out.frozen 0
                have z1 := mx4.out.c1
                have fz1 := mx4.out.frozen 1
                have z2 := mx4.out.c2
                have fz2 := mx4.out.frozen 2
                have z3 := mx4.out.c3
                have fz3 := mx4.out.frozen 3
                have Kz := Lib.hid (Kx4.out)
                clear hHeld
                refine wpAnyM_one (i := 11) (by kernel_rfl) rfl (fun K hK => ?_)
                go_simp
                refine hK.out _ _ (fun h => absurd h (by decide)) (fun _ => ?_)
                clear hK K
                try simp only [Act.put, List.setIfInBounds_toArray, List.set_cons_zero, List.set_cons_succ]
                refine wpAnyM_done (by kernel_rfl) ?_ _
                first | exact ⟨_, _, _, _, _, _, _, _, _, _, _, _, _, _, _, _, _, _, _, _, _, _, _, _, _, _, _, _, _, _, _, _, _, _, _, _, _, _, _, _, _, _, _, _, _, _, _, _, _, ⟨gx, alloc_swap Kz.out gx, mask_new_at _ _ rfl⟩, rfl⟩ | exact ⟨_, _, _, _, _, _, _, _, _, _, _, _, _, _, _, _, _, _, _, _, _, _, _, _, _, _, _, _, _, _, _, _, _, _, _, _, _, _, _, _, _, _, _, _, _, _, _, _, _, ⟨gx, (only_put4 (S := fun k => wb.heap.size ≤ k) (Only.of_below Kz.out) gx _ _ _ _ 0).below (Nat.le_refl _) (fun k h => h), mz.out⟩, rfl⟩
              · skip
                go_simp
                have mx5 : Hid (MaskAt (wx2.alloc (.cells #[.int .u64 0, .int .u64 0, .int .u64 0, .int .u64 0] 67)) wx2.heap.size (fun _ => false)) := by rw [mask_zero]; exact mask_new_at _ _ rfl
                have Kx5 : Hid (Below wb.heap.size wb (wx2.alloc (.cells #[.int .u64 0, .int .u64 0, .int .u64 0, .int .u64 0] 67))) := (Kx2.out).trans ((below1 _ _).mono (Kx2.out).size)
                have gx : wb.heap.size ≤ wx2.heap.size := (Kx2.out).size
                refine hK.out _ _ (fun _ => HSw.out _ Kx5.out) (fun hHeld => ?_)
                have hHeld := hHeld (by decide)
                clear hK K
                try simp only [Act.put, List.setIfInBounds_toArray, List.set_cons_zero, List.set_cons_succ]
                refine wpAnyM_one (i := 9) (by kernel_rfl) rfl (fun K hK => ?_)
                go_simp
                go_at_call 136
                refine (mask_less _ _).mono ?_
                rintro e wx6 ⟨rfl, hb⟩
                have Kx6 := Lib.hid ((Kx5.out).trans (hb.mono (Kx5.out).size))
                have mx6 := Lib.hid (mx5.out.below hb)
                clear hb
                go_wp2_with fail
                refine hK.out _ _ (fun _ => HSw.out _ Kx6.out) (fun hHeld => ?_)
                have hHeld := hHeld (by decide)
                clear hK K
                try simp only [Act.put, List.setIfInBounds_toArray, List.set_cons_zero, List.set_cons_succ]
                have mz := Lib.hid (mx6.out.put4 (nearB Pd I A F))
                have z0 := mx6.out.c0
                have fz0 := mx6.out.frozen 0
                have z1 := mx6.out.c1
                have fz1 := mx6.out.frozen 1
                have z2 := mx6.out.c2
                have fz2 := mx6.out.frozen 2
                have z3 := mx6.out.c3
                have fz3 := mx6.out.frozen 3
                have Kz := Lib.hid (Kx6.out)
                clear hHeld
                refine wpAnyM_one (i := 11) (by kernel_rfl) rfl (fun K hK => ?_)
                go_simp
                refine hK.out _ _ (fun h => absurd h (by decide)) (fun _ => ?_)
                clear hK K
                try simp only [Act.put, List.setIfInBounds_toArray, List.set_cons_zero, List.set_cons_succ]
                refine wpAnyM_done (by kernel_rfl) ?_ _
                first | exact ⟨_, _, _, _, _, _, _, _, _, _, _, _, _, _, _, _, _, _, _, _, _, _, _, _, _, _, _, _, _, _, _, _, _, _, _, _, _, _, _, _, _, _, _, _, _, _, _, _, _, ⟨gx, alloc_swap Kz.out gx, mask_new_at _ _ rfl⟩, rfl⟩ | exact ⟨_, _, _, _, _, _, _, _, _, _, _, _, _, _, _, _, _, _, _, _, _, _, _, _, _, _, _, _, _, _, _, _, _, _, _, _, _, _, _, _, _, _, _, _, _, _, _, _, _, ⟨gx, (only_put4 (S := fun k => wb.heap.size ≤ k) (Only.of_below Kz.out) gx _ _ _ _ 0).below (Nat.le_refl _) (fun k h => h), mz.out⟩, rfl⟩
            · skip
              go_simp
              have mx7 : Hid (MaskAt (wx1.alloc (.cells #[.int .u64 0, .int .u64 0, .int .u64 0, .int .u64 0] 67)) wx1.heap.size (fun _ => false)) := by rw [mask_zero]; exact mask_new_at _ _ rfl
              have Kx7 : Hid (Below wb.heap.size wb (wx1.alloc (.cells #[.int .u64 0, .int .u64 0, .int .u64 0, .int .u64 0] 67))) := (Kx1.out).trans ((below1 _ _).mono (Kx1.out).size)
              have gx : wb.heap.size ≤ wx1.heap.size := (Kx1.out).size
              refine hK.out _ _ (fun _ => HSw.out _ Kx7.out) (fun hHeld => ?_)
              have hHeld := hHeld (by decide)
              clear hK K
              try simp only [Act.put, List.setIfInBounds_toArray, List.set_cons_zero, List.set_cons_succ]
              refine wpAnyM_one (i := 7) (by kernel_rfl) rfl (fun K hK => ?_)
              go_simp
              go_at_call 75
              refine (mask_meet _ _).mono ?_
              rintro e wx8 ⟨rfl, hb⟩
              have Kx8 := Lib.hid ((Kx7.out).trans (hb.mono (Kx7.out).size))
              have mx8 := Lib.hid (mx7.out.below hb)
              clear hb
              go_wp2_with fail
              refine hK.out _ _ (fun _ => HSw.out _ Kx8.out) (fun hHeld => ?_)
              have hHeld := hHeld (by decide)
              clear hK K
              try simp only [Act.put, List.setIfInBounds_toArray, List.set_cons_zero, List.set_cons_succ]
              refine wpAnyM_one (i := 9) (by kernel_rfl) rfl (fun K hK => ?_)
              go_simp
              go_at_call 136
              refine (mask_less _ _).mono ?_
              rintro e wx9 ⟨rfl, hb⟩
              have Kx9 := Lib.hid ((Kx8.out).trans (hb.mono (Kx8.out).size))
              have mx9 := Lib.hid (mx8.out.below hb)
              clear hb
              go_wp2_with fail
              refine hK.out _ _ (fun _ => HSw.out _ Kx9.out) (fun hHeld => ?_)
              have hHeld := hHeld (by decide)
              clear hK K
              try simp only [Act.put, List.setIfInBounds_toArray, List.set_cons_zero, List.set_cons_succ]
              have mz := Lib.hid (mx9.out.put4 (nearB Pd I A F))
              have z0 := mx9.out.c0
              have fz0 := mx9.out.frozen 0
              have z1 := mx9.out.c1
              have fz1 := mx9.out.frozen 1
              have z2 := mx9.out.c2
              have fz2 := mx9.out.frozen 2
              have z3 := mx9.out.c3
              have fz3 := mx9.out.frozen 3
              have Kz := Lib.hid (Kx9.out)
              clear hHeld
              refine wpAnyM_one (i := 11) (by kernel_rfl) rfl (fun K hK => ?_)
              go_simp
              refine hK.out _ _ (fun h => absurd h (by decide)) (fun _ => ?_)
              clear hK K
              try simp only [Act.put, List.setIfInBounds_toArray, List.set_cons_zero, List.set_cons_succ]
              refine wpAnyM_done (by kernel_rfl) ?_ _
              first | exact ⟨_, _, _, _, _, _, _, _, _, _, _, _, _, _, _, _, _, _, _, _, _, _, _, _, _, _, _, _, _, _, _, _, _, _, _, _, _, _, _, _, _, _, _, _, _, _, _, _, _, ⟨gx, alloc_swap Kz.out gx, mask_new_at _ _ rfl⟩, rfl⟩ | exact ⟨_, _, _, _, _, _, _, _, _, _, _, _, _, _, _, _, _, _, _, _, _, _, _, _, _, _, _, _, _, _, _, _, _, _, _, _, _, _, _, _, _, _, _, _, _, _, _, _, _, ⟨gx, (only_put4 (S := fun k => wb.heap.size ≤ k) (Only.of_below Kz.out) gx _ _ _ _ 0).below (Nat.le_refl _) (fun k h => h), mz.out⟩, rfl⟩
          · skip
            go_simp
            have mx10 : Hid (MaskAt (wb.drew.alloc (.cells #[.int .u64 0, .int .u64 0, .int .u64 0, .int .u64 0] 67)) wb.heap.size (fun _ => false)) := by rw [mask_zero]; exact mask_new_at _ _ rfl
            have Kx10 : Hid (Below wb.heap.size wb (wb.drew.alloc (.cells #[.int .u64 0, .int .u64 0, .int .u64 0, .int .u64 0] 67))) := (Kd.out).trans ((below1 _ _).mono (Kd.out).size)
            have gx : wb.heap.size ≤ wb.heap.size := (Kd.out).size
            refine hK.out _ _ (fun _ => HSw.out _ Kx10.out) (fun hHeld => ?_)
            have hHeld := hHeld (by decide)
            clear hK K
            try simp only [Act.put, List.setIfInBounds_toArray, List.set_cons_zero, List.set_cons_succ]
            refine wpAnyM_one (i := 5) (by kernel_rfl) rfl (fun K hK => ?_)
            go_simp
            go_at_call 156
            refine (across_is (HEnv.out _ (O1.out.trans (Only.of_below (Kx10.out)))).1 (HEnv.out _ (O1.out.trans (Only.of_below (Kx10.out)))).2.back HFn.out hn).mono ?_
            rintro e wx11 ⟨rfl, hb⟩
            have Kx11 := Lib.hid ((Kx10.out).trans (hb.mono (Kx10.out).size))
            have mx11 := Lib.hid (mx10.out.below hb)
            clear hb
            go_wp2_with fail
            refine hK.out _ _ (fun _ => HSw.out _ Kx11.out) (fun hHeld => ?_)
            have hHeld := hHeld (by decide)
            clear hK K
            try simp only [Act.put, List.setIfInBounds_toArray, List.set_cons_zero, List.set_cons_succ]
            refine wpAnyM_one (i := 7) (by kernel_rfl) rfl (fun K hK => ?_)
            go_simp
            go_at_call 75
            refine (mask_meet _ _).mono ?_
            rintro e wx12 ⟨rfl, hb⟩
            have Kx12 := Lib.hid ((Kx11.out).trans (hb.mono (Kx11.out).size))
            have mx12 := Lib.hid (mx11.out.below hb)
            clear hb
            go_wp2_with fail
            refine hK.out _ _ (fun _ => HSw.out _ Kx12.out) (fun hHeld => ?_)
            have hHeld := hHeld (by decide)
            clear hK K
            try simp only [Act.put, List.setIfInBounds_toArray, List.set_cons_zero, List.set_cons_succ]
            refine wpAnyM_one (i := 9) (by kernel_rfl) rfl (fun K hK => ?_)
            go_simp
            go_at_call 136
            refine (mask_less _ _).mono ?_
            rintro e wx13 ⟨rfl, hb⟩
            have Kx13 := Lib.hid ((Kx12.out).trans (hb.mono (Kx12.out).size))
            have mx13 := Lib.hid (mx12.out.below hb)
            clear hb
            go_wp2_with fail
            refine hK.out _ _ (fun _ => HSw.out _ Kx13.out) (fun hHeld => ?_)
            have hHeld := hHeld (by decide)
            clear hK K
            try simp only [Act.put, List.setIfInBounds_toArray, List.set_cons_zero, List.set_cons_succ]
            have mz := Lib.hid (mx13.out.put4 (nearB Pd I A F))
            have z0 := mx13.out.c0
            have fz0 := mx13.out.frozen 0
            have z1 := mx13.out.c1
            have fz1 := mx13.out.frozen 1
            have z2 := mx13.out.c2
            have fz2 := mx13.out.frozen 2
            have z3 := mx13.out.c3
            have fz3 := mx13.out.frozen 3
            have Kz := Lib.hid (Kx13.out)
            clear hHeld
            refine wpAnyM_one (i := 11) (by kernel_rfl) rfl (fun K hK => ?_)
            go_simp
            refine hK.out _ _ (fun h => absurd h (by decide)) (fun _ => ?_)
            clear hK K
            try simp only [Act.put, List.setIfInBounds_toArray, List.set_cons_zero, List.set_cons_succ]
            refine wpAnyM_done (by kernel_rfl) ?_ _
            first | exact ⟨_, _, _, _, _, _, _, _, _, _, _, _, _, _, _, _, _, _, _, _, _, _, _, _, _, _, _, _, _, _, _, _, _, _, _, _, _, _, _, _, _, _, _, _, _, _, _, _, _, ⟨gx, alloc_swap Kz.out gx, mask_new_at _ _ rfl⟩, rfl⟩ | exact ⟨_, _, _, _, _, _, _, _, _, _, _, _, _, _, _, _, _, _, _, _, _, _, _, _, _, _, _, _, _, _, _, _, _, _, _, _, _, _, _, _, _, _, _, _, _, _, _, _, _, ⟨gx, (only_put4 (S := fun k => wb.heap.size ≤ k) (Only.of_below Kz.out) gx _ _ _ _ 0).below (Nat.le_refl _) (fun k h => h), mz.out⟩, rfl⟩
      case rest5 =>
        rintro a' wx ⟨gN, u12, u15, u16, u17, u18, u19, u20, u21, u22, u23, u24, u25, u26, u27, u28, u29, u30, u31, u32, u33, u34, u35, u36, u37, u38, u39, u40, u41, u42, u43, u44, u45, u46, u47, u48, u49, u50, u51, u52, u53, u54, u55, u56, u57, u58, u59, u60, u61, ⟨hgN, Bx, HN⟩, rfl⟩
        clear bP2
        have HM3 := Lib.hid (HM2.out.below Bx.out)
        have HF3 := Lib.hid (HF2.out.below Bx.out)
        have HI3 := Lib.hid (HI2.out.below Bx.out)
        have bP3 := Lib.hid (bx_below (bx_below bPw.out Kb.out) Bx.out)
        have bR3 := Lib.hid (bR2.out.below Bx.out)
        have HMK3 : Hid (MarksAt wx w1.heap.size ds) := HMK2.out.only (S := fun _ => False) (Only.of_below Bx.out) fun _ h => h.elim
        have O3 : Hid (Only (fun k => w.heap.size ≤ k) w wx) := O1.out.trans (Only.of_below Bx.out)
        have O4 : Hid (Only (fun k => k = w.heap.size + 1 + 1 + 1 + 1 ∨ w.heap.size + 1 + 1 + 1 + 1 + 1 ≤ k) w1 wx) := O2.out.trans (Only.of_below Bx.out)
        have HSx : Hid (wb.heap.size ≤ wx.heap.size) := Bx.out.size
        have HFlt : Hid (gF < wb.heap.size) := HF2.out.lt
        have hi0 : (0 : Int) ≤ (i : Int) := by omega
        have hi2 : (i : Int) < 2 := by omega
        have HSv : Hid (∀ W', Below wx.heap.size wx W' → W'.cell? ⟨w.heap.size, 0, none⟩ = some (.pointer (some ⟨b, 0, none⟩)) ∧ W'.cell? ⟨gN, 0, none⟩ = some (.int .u64 (maskW (nearB Pd I A F) 0)) ∧ W'.cell? ⟨gN, 1, none⟩ = some (.int .u64 (maskW (nearB Pd I A F) 1)) ∧ W'.cell? ⟨gN, 2, none⟩ = some (.int .u64 (maskW (nearB Pd I A F) 2)) ∧ W'.cell? ⟨gN, 3, none⟩ = some (.int .u64 (maskW (nearB Pd I A F) 3)) ∧ W'.cell? ⟨b, i * 4, none⟩ = some (.int .u64 (maskW (Ow i) 0)) ∧ W'.cell? ⟨b, i * 4 + 1, none⟩ = some (.int .u64 (maskW (Ow i) 1)) ∧ W'.cell? ⟨b, i * 4 + 2, none⟩ = some (.int .u64 (maskW (Ow i) 2)) ∧ W'.cell? ⟨b, i * 4 + 3, none⟩ = some (.int .u64 (maskW (Ow i) 3))) := fun W' hb => by
          have m1 := HN.out.below hb
          have m4 := bx_below bP3.out hb
          have m5 := (HEnv.out _ (O3.out.trans (Only.of_below hb))).2.own i hi
          exact ⟨m4.cell, m1.c0, m1.c1, m1.c2, m1.c3, m5 0 (by omega), m5 1 (by omega), m5 2 (by omega), m5 3 (by omega)⟩
        have Ke : Hid (Below wx.heap.size wx wx.drew) := (Below.refl _ _).drew
        clear HM HF bPw bIw bRw HMK HM2 HF2 HI2 bR2 HMK2 HSw HC Kd
        go_wp2_with fail
        refine wp_cut (fun a' wy => ∃ u12 u15 u16 u17 u18 u19 u20 u21 u22 u23 u24 u25 u26 u27 u28 u29 u30 u31 u32 u33 u34 u35 u36 u37 u38 u39 u40 u41 u42 u43 u44 u45 u46 u47 u48 u49 u50 u51 u52 u53 u54 u55 u56 u57 u58 u59 u60 u61, (Hid (MaskAt wy gF (andB (nearB Pd I A F) (Ow i))) ∧ Hid (Only (fun k => k = gF ∨ wx.heap.size ≤ k) wx wy)) ∧ a' = { tmps := #[.pointer (some ⟨b, 0, none⟩), .int .i64 i, maskV I, maskV G, .pointer (some ⟨w.heap.size, 0, none⟩), undef, .pointer (some ⟨w.heap.size + 1, 0, none⟩), .pointer (some ⟨w.heap.size + 1 + 1, 0, none⟩), .pointer (some ⟨w.heap.size + 1 + 1 + 1, 0, none⟩), .pointer (some ⟨w.heap.size + 1 + 1 + 1 + 1, 0, none⟩), .pointer (some ⟨gF, 0, none⟩), .pointer (some ⟨gN, 0, none⟩), u12, .agg #[.int .u64 (maskW G 0), .int .u64 (maskW G 1), .int .u64 (maskW G 2), .int .u64 (maskW G 3)], .agg #[.int .u64 (maskW G 0), .int .u64 (maskW G 1), .int .u64 (maskW G 2), .int .u64 (maskW G 3)], u15, u16, u17, u18, u19, u20, u21, u22, u23, u24, u25, u26, u27, u28, u29, u30, u31, u32, u33, u34, u35, u36, u37, u38, u39, u40, u41, u42, u43, u44, u45, u46, u47, u48, u49, u50, u51, u52, u53, u54, u55, u56, u57, u58, u59, u60, u61, undef], defers := ds }) ?reg6 ?rest6
        case reg6 =>
          refine wp_region_M (S := (fun W' => W'.cell? ⟨w.heap.size, 0, none⟩ = some (.pointer (some ⟨b, 0, none⟩)) ∧ W'.cell? ⟨gN, 0, none⟩ = some (.int .u64 (maskW (nearB Pd I A F) 0)) ∧ W'.cell? ⟨gN, 1, none⟩ = some (.int .u64 (maskW (nearB Pd I A F) 1)) ∧ W'.cell? ⟨gN, 2, none⟩ = some (.int .u64 (maskW (nearB Pd I A F) 2)) ∧ W'.cell? ⟨gN, 3, none⟩ = some (.int .u64 (maskW (nearB Pd I A F) 3)) ∧ W'.cell? ⟨b, i * 4, none⟩ = some (.int .u64 (maskW (Ow i) 0)) ∧ W'.cell? ⟨b, i * 4 + 1, none⟩ = some (.int .u64 (maskW (Ow i) 1)) ∧ W'.cell? ⟨b, i * 4 + 2, none⟩ = some (.int .u64 (maskW (Ow i) 2)) ∧ W'.cell? ⟨b, i * 4 + 3, none⟩ = some (.int .u64 (maskW (Ow i) 3)))) (m := 8) (by kernel_rfl) (HSv.out _ Ke.out) (fun hHeld => ?_)
          refine wpAnyM_take (i := 0) (v := ?vm8) rfl (by kernel_rfl) (by decide) (by kernel_rfl) (by kernel_rfl) (by kernel_rfl) (fun _ _ _ h => h) (Or.inl ⟨by rfl, ?hm8⟩) (by assumption) ?_
          case hm8 => (intro w hSw; (try dsimp only at hSw); go_simp; first | done | with_reducible rfl)
          try simp only [Act.put, List.setIfInBounds_toArray, List.set_cons_zero, List.set_cons_succ]
          refine wpAnyM_take (i := 1) (v := ?vm9) rfl (by kernel_rfl) (by decide) (by kernel_rfl) (by kernel_rfl) (by kernel_rfl) (fun _ _ _ h => h) (Or.inl ⟨by rfl, ?hm9⟩) (by assumption) ?_
          case hm9 => (intro w hSw; (try dsimp only at hSw); go_simp; first | done | with_reducible rfl)
          try simp only [Act.put, List.setIfInBounds_toArray, List.set_cons_zero, List.set_cons_succ]
          refine wpAnyM_take (i := 2) (v := ?vm10) rfl (by kernel_rfl) (by decide) (by kernel_rfl) (by kernel_rfl) (by kernel_rfl) (fun _ _ _ h => h) (Or.inl ⟨by rfl, ?hm10⟩) (by assumption) ?_
          case hm10 => (intro w hSw; (try dsimp only at hSw); go_simp; first | done | with_reducible rfl)
          try simp only [Act.put, List.setIfInBounds_toArray, List.set_cons_zero, List.set_cons_succ]
          refine wpAnyM_take (i := 3) (v := ?vm11) rfl (by kernel_rfl) (by decide) (by kernel_rfl) (by kernel_rfl) (by kernel_rfl) (fun _ _ _ h => h) (Or.inl ⟨by rfl, ?hm11⟩) (by assumption) ?_
          case hm11 => (intro w hSw; (try dsimp only at hSw); go_simp; first | done | with_reducible rfl)
          try simp only [Act.put, List.setIfInBounds_toArray, List.set_cons_zero, List.set_cons_succ]
          refine wpAnyM_take (i := 4) (v := ?vm12) rfl (by kernel_rfl) (by decide) (by kernel_rfl) (by kernel_rfl) (by kernel_rfl) (fun _ _ _ h => h) (Or.inl ⟨by rfl, ?hm12⟩) (by assumption) ?_
          case hm12 => (intro w hSw; (try dsimp only at hSw); go_simp; first | done | with_reducible rfl)
          try simp only [Act.put, List.setIfInBounds_toArray, List.set_cons_zero, List.set_cons_succ]
          refine wpAnyM_take (i := 5) (v := ?vm13) rfl (by kernel_rfl) (by decide) (by kernel_rfl) (by kernel_rfl) (by kernel_rfl) (fun _ _ _ h => h) (Or.inl ⟨by rfl, ?hm13⟩) (by assumption) ?_
          case hm13 => (intro w hSw; (try dsimp only at hSw); go_simp; first | done | with_reducible rfl)
          try simp only [Act.put, List.setIfInBounds_toArray, List.set_cons_zero, List.set_cons_succ]
          refine wpAnyM_take (i := 6) (v := ?vm14) rfl (by kernel_rfl) (by decide) (by kernel_rfl) (by kernel_rfl) (by kernel_rfl) (fun _ _ _ h => h) (Or.inl ⟨by rfl, ?hm14⟩) (by assumption) ?_
          case hm14 => (intro w hSw; (try dsimp only at hSw); go_simp; first | done | with_reducible rfl)
          try simp only [Act.put, List.setIfInBounds_toArray, List.set_cons_zero, List.set_cons_succ]
          refine wpAnyM_one (i := 7) (by kernel_rfl) rfl (fun K hK => ?_)
          go_simp
          go_at_call 75
          refine (mask_meet _ _).mono ?_
          rintro e wc ⟨rfl, hb⟩
          have Kc := Lib.hid (Ke.out.trans (hb.mono Ke.out.size))
          clear hb
          go_wp2_with fail
          refine hK.out _ _ (fun _ => HSv.out _ Kc.out) (fun hHeld => ?_)
          have hHeld := hHeld (by decide)
          clear hK K
          try simp only [Act.put, List.setIfInBounds_toArray, List.set_cons_zero, List.set_cons_succ]
          have mA := HF3.out.below Kc.out
          have z0 := mA.c0
          have fz0 := mA.frozen 0
          have z1 := mA.c1
          have fz1 := mA.frozen 1
          have z2 := mA.c2
          have fz2 := mA.frozen 2
          have z3 := mA.c3
          have fz3 := mA.frozen 3
          have mq := Lib.hid (mA.put4 (andB (nearB Pd I A F) (Ow i)))
          clear hHeld mA
          refine wpAnyM_one (i := 8) (by kernel_rfl) rfl (fun K hK => ?_)
          go_simp
          refine hK.out _ _ (fun h => absurd h (by decide)) (fun _ => ?_)
          clear hK K
          try simp only [Act.put, List.setIfInBounds_toArray, List.set_cons_zero, List.set_cons_succ]
          refine wpAnyM_done (by kernel_rfl) ?_ _
          exact ⟨_, _, _, _, _, _, _, _, _, _, _, _, _, _, _, _, _, _, _, _, _, _, _, _, _, _, _, _, _, _, _, _, _, _, _, _, _, _, _, _, _, _, _, _, _, _, _, _, ⟨mq.out, only_put4 (S := fun k => k = gF ∨ wx.heap.size ≤ k) (Only.of_below Kc.out |>.mono fun k hk => .inr hk) (.inl rfl) _ _ _ _ 0⟩, rfl⟩
        case rest6 =>
        rintro a' wy ⟨u12, u15, u16, u17, u18, u19, u20, u21, u22, u23, u24, u25, u26, u27, u28, u29, u30, u31, u32, u33, u34, u35, u36, u37, u38, u39, u40, u41, u42, u43, u44, u45, u46, u47, u48, u49, u50, u51, u52, u53, u54, u55, u56, u57, u58, u59, u60, u61, ⟨HF4, Oy⟩, rfl⟩
        clear HSv Ke
        have HN4 := Lib.hid (HN.out.only Oy.out (by have := HN.out.lt; have := HFlt.out; omega))
        have HM4 := Lib.hid (HM3.out.only Oy.out (by have := HM3.out.lt; omega))
        have HI4 := Lib.hid (HI3.out.only Oy.out (by have := HI3.out.lt; omega))
        have bP4 := Lib.hid (bx_only bP3.out Oy.out (by have := bP3.out.lt; omega))
        have HSy : Hid (wx.heap.size ≤ wy.heap.size) := Oy.out.size
        have O5 : Hid (Only (fun k => w.heap.size ≤ k) w wy) := O3.out.trans (Oy.out.mono fun k hk => by have := HFlt.out; have := HSx.out; omega)
        have O6 : Hid (Only (fun k => k = w.heap.size + 1 + 1 + 1 + 1 ∨ w.heap.size + 1 + 1 + 1 + 1 + 1 ≤ k) w1 wy) := O4.out.trans (Oy.out.mono fun k hk => by have := HSx.out; have := HSb.out; omega)
        have bR4 := Lib.hid (bR3.out.only Oy.out (by have := bR3.out.lt; omega))
        have HMK4 : Hid (MarksAt wy w1.heap.size ds) := HMK3.out.only Oy.out fun D hD hDl => by
          rcases hD with hD | hD
          · rw [hD]; exact not_mark HF3.out rfl
          · omega
        clear HF3
        have n0 := HN4.out.c0
        have n1 := HN4.out.c1
        have n2 := HN4.out.c2
        have n3 := HN4.out.c3
        have f0 := HF4.out.c0
        have f1 := HF4.out.c1
        have f2 := HF4.out.c2
        have f3 := HF4.out.c3
        clear HN HM3 HI3 bP3 bR3 HMK3
        obtain ⟨J, hJ⟩ : ∃ J, lessB (nearB Pd I A F) (andB (nearB Pd I A F) (Ow i)) = J := ⟨_, rfl⟩
        have HJ := Lib.hid hJ
        clear hJ
        go_wp2_with fail
        refine (mask_less_as (K := J) HJ.out).mono ?_
        rintro e wz ⟨rfl, hb⟩
        have HN5 := Lib.hid (HN4.out.below hb)
        have HF5 := Lib.hid (HF4.out.below hb)
        have Bz := Lib.hid hb
        clear hb n0 n1 n2 n3 f0 f1 f2 f3 HN4 HF4
        go_wp2_with fail
        refine (mask_all _ J).mono ?_
        rintro e w2 ⟨rfl, hw2⟩
        have B2 : Hid (Below wz.heap.size wz w2) := by rw [hw2]; exact below1 _ _
        have bJ : Hid (MaskAt w2 wz.heap.size J) := by rw [hw2]; exact MaskAt.new _ _
        have HSz : Hid (wy.heap.size ≤ wz.heap.size) := Bz.out.size
        have HS2 : Hid (w2.heap.size = wz.heap.size + 1) := by rw [hw2]; simp [Hid]
        clear hw2
        have Bw : Hid (Below wy.heap.size wy w2) := Bz.out.trans (B2.out.mono HSz.out)
        have HF6 := Lib.hid (HF5.out.below B2.out)
        have HM6 := Lib.hid (HM4.out.below Bw.out)
        have HI6 := Lib.hid (HI4.out.below Bw.out)
        have bP6 := Lib.hid (bx_below bP4.out Bw.out)
        have bR6 := Lib.hid (bR4.out.below Bw.out)
        have HMK6 : Hid (MarksAt w2 w1.heap.size ds) := HMK4.out.only (S := fun _ => False) (Only.of_below Bw.out) fun _ h => h.elim
        have O7 : Hid (Only (fun k => w.heap.size ≤ k) w w2) := O5.out.trans (Only.of_below Bw.out)
        have O8 : Hid (Only (fun k => k = w.heap.size + 1 + 1 + 1 + 1 ∨ w.heap.size + 1 + 1 + 1 + 1 + 1 ≤ k) w1 w2) := O6.out.trans (Only.of_below Bw.out)
        have T2 := Lib.hid (HEnv.out _ O7.out).1
        have T0 := Lib.hid (HEnv.out _ (Only.refl _ _)).1.lt
        have HJn : Hid (∀ x, J x = true → x < n) := fun x hx => by
          have h1 := hx
          rw [← HJ.out] at h1
          unfold lessB nearB lessB andB at h1
          simp only [Bool.and_eq_true] at h1
          exact HI.out x h1.1.1.2
        clear HF5 HM4 HI4 bP4 bR4 HMK4 HN5 O3 O5 O1 O2 O4 O6 HSx HSb HSy
        go_wp2_with fail
        refine wp_members (Bs := wz.heap.size) (I := J) rfl T2.out bJ.out rfl (fun k => k = gF)
          (fun k hk => by
            have h1 := HF6.out.lt
            have h2 := T0.out
            omega)
          (fun pre W => MaskAt W gF (gatB (nearB Pd I A F) (Ow i) (shutB E I A) pre)) (fun _ _ _ => False)
          (fun pre A A' h ho => h.only ho (by have h1 := HF6.out.lt; omega)) (fun _ _ _ _ h _ => h)
          (by rw [gat_nil]; exact HF6.out) ?act ?assign ?body ?done ?stop
        case assign =>
          intro l x W K hK
          dsimp only [encI]
          gi_wp2
          exact hK
        case body =>
          intro l pre x W hR hO
          obtain ⟨v, hv⟩ : ∃ v : Nat, v = x.1 := ⟨_, rfl⟩
          have hvn : v < n := by rw [hv]; exact HJn.out _ x.2.2
          have hv0 : (0 : Int) ≤ (v : Int) := by omega
          have hv1 : (v : Int) < (n : Int) := by omega
          have HY : Hid (shutB E I A v = true → gatB (nearB Pd I A F) (Ow i) (shutB E I A) (pre ++ [x]) = orB (gatB (nearB Pd I A F) (Ow i) (shutB E I A) pre) (oneB v)) := fun h => by rw [hv] at h ⊢; exact gat_yes h
          have HZ : Hid (shutB E I A v = false → gatB (nearB Pd I A F) (Ow i) (shutB E I A) (pre ++ [x]) = gatB (nearB Pd I A F) (Ow i) (shutB E I A) pre) := fun h => by rw [hv] at h; exact gat_no h
          rw [← hv]
          obtain ⟨T, hTT⟩ : ∃ T, gatB (nearB Pd I A F) (Ow i) (shutB E I A) pre = T := ⟨_, rfl⟩
          obtain ⟨T', hTT'⟩ : ∃ T', gatB (nearB Pd I A F) (Ow i) (shutB E I A) (pre ++ [x]) = T' := ⟨_, rfl⟩
          rw [hTT] at hR HY HZ
          rw [hTT'] at HY HZ
          have HTT := Lib.hid hTT'
          clear hTT hTT' hv
          have hs2 := HS2.out
          have hsz := HSz.out
          have hsW := hO.size
          have HR := Lib.hid hR
          have HO9 := Lib.hid hO
          have bPW := Lib.hid (bx_only bP6.out hO (by have := bP6.out.lt; omega))
          have HIW := Lib.hid (HI6.out.only hO (by have := HI6.out.lt; omega))
          have HMW := Lib.hid (HM6.out.only hO (by have := HM6.out.lt; omega))
          have OW : Hid (Only (fun k => w.heap.size ≤ k) w W) := O7.out.trans (hO.mono fun k hk => by have := O7.out.size; omega)
          have HSw : Hid (∀ W', Below W.heap.size W W' → W'.cell? ⟨w.heap.size, 0, none⟩ = some (.pointer (some ⟨b, 0, none⟩)) ∧ W'.cell? ⟨b, 172, none⟩ = some (.slice (some ⟨nb, 0, none⟩) n n) ∧ W'.cell? ⟨nb, v * 4, none⟩ = some (.int .u64 (maskW (E v) 0)) ∧ W'.cell? ⟨nb, v * 4 + 1, none⟩ = some (.int .u64 (maskW (E v) 1)) ∧ W'.cell? ⟨nb, v * 4 + 2, none⟩ = some (.int .u64 (maskW (E v) 2)) ∧ W'.cell? ⟨nb, v * 4 + 3, none⟩ = some (.int .u64 (maskW (E v) 3)) ∧ W'.cell? ⟨w.heap.size + 1, 0, none⟩ = some (.int .u64 (maskW I 0)) ∧ W'.cell? ⟨w.heap.size + 1, 1, none⟩ = some (.int .u64 (maskW I 1)) ∧ W'.cell? ⟨w.heap.size + 1, 2, none⟩ = some (.int .u64 (maskW I 2)) ∧ W'.cell? ⟨w.heap.size + 1, 3, none⟩ = some (.int .u64 (maskW I 3)) ∧ W'.cell? ⟨w.heap.size + 1 + 1 + 1 + 1, 0, none⟩ = some (.int .u64 (maskW A 0)) ∧ W'.cell? ⟨w.heap.size + 1 + 1 + 1 + 1, 1, none⟩ = some (.int .u64 (maskW A 1)) ∧ W'.cell? ⟨w.heap.size + 1 + 1 + 1 + 1, 2, none⟩ = some (.int .u64 (maskW A 2)) ∧ W'.cell? ⟨w.heap.size + 1 + 1 + 1 + 1, 3, none⟩ = some (.int .u64 (maskW A 3))) := fun W' hb => by
            have m1 := HIW.out.below hb
            have m2 := HMW.out.below hb
            have m4 := bx_below bPW.out hb
            have m5 := (HEnv.out _ (OW.out.trans (Only.of_below hb))).2.next
            have m6 := (HEnv.out _ (OW.out.trans (Only.of_below hb))).2.succ v hvn
            have m60 := m6 0 (by omega)
            have m61 := m6 1 (by omega)
            have m62 := m6 2 (by omega)
            have m63 := m6 3 (by omega)
            rw [Nat.zero_add] at m60 m61 m62 m63
            exact ⟨m4.cell, m5, m60, m61, m62, m63, m1.c0, m1.c1, m1.c2, m1.c3, m2.c0, m2.c1, m2.c2, m2.c3⟩
          have Kd : Hid (Below W.heap.size W W.drew) := (Below.refl _ _).drew
          clear hR hO hs2 hsz hsW
          gi_wp2
          cases hsh : shutB E I A v with
          | true =>
            replace HY := Lib.hid (HY.out hsh)
            have HX := Lib.hid (fun w => mask_isEmpty (w := w) (lessB (andB (E v) I) A) hsh)
            clear hsh HZ
            refine wpIn_region_M (S := (fun W' => W'.cell? ⟨w.heap.size, 0, none⟩ = some (.pointer (some ⟨b, 0, none⟩)) ∧ W'.cell? ⟨b, 172, none⟩ = some (.slice (some ⟨nb, 0, none⟩) n n) ∧ W'.cell? ⟨nb, v * 4, none⟩ = some (.int .u64 (maskW (E v) 0)) ∧ W'.cell? ⟨nb, v * 4 + 1, none⟩ = some (.int .u64 (maskW (E v) 1)) ∧ W'.cell? ⟨nb, v * 4 + 2, none⟩ = some (.int .u64 (maskW (E v) 2)) ∧ W'.cell? ⟨nb, v * 4 + 3, none⟩ = some (.int .u64 (maskW (E v) 3)) ∧ W'.cell? ⟨w.heap.size + 1, 0, none⟩ = some (.int .u64 (maskW I 0)) ∧ W'.cell? ⟨w.heap.size + 1, 1, none⟩ = some (.int .u64 (maskW I 1)) ∧ W'.cell? ⟨w.heap.size + 1, 2, none⟩ = some (.int .u64 (maskW I 2)) ∧ W'.cell? ⟨w.heap.size + 1, 3, none⟩ = some (.int .u64 (maskW I 3)) ∧ W'.cell? ⟨w.heap.size + 1 + 1 + 1 + 1, 0, none⟩ = some (.int .u64 (maskW A 0)) ∧ W'.cell? ⟨w.heap.size + 1 + 1 + 1 + 1, 1, none⟩ = some (.int .u64 (maskW A 1)) ∧ W'.cell? ⟨w.heap.size + 1 + 1 + 1 + 1, 2, none⟩ = some (.int .u64 (maskW A 2)) ∧ W'.cell? ⟨w.heap.size + 1 + 1 + 1 + 1, 3, none⟩ = some (.int .u64 (maskW A 3)))) (m := 12) (by kernel_rfl) (by kernel_rfl) (HSw.out _ Kd.out) (fun hHeld => ?_)
            refine wpAnyM_take (i := 0) (v := ?vm17) rfl (by kernel_rfl) (by decide) (by kernel_rfl) (by kernel_rfl) (by kernel_rfl) (fun _ _ _ h => h) (Or.inl ⟨by rfl, ?hm17⟩) (by assumption) ?_
            case hm17 => (intro w hSw; (try dsimp only at hSw); go_simp; first | done | with_reducible rfl)
            try simp only [Act.put, List.setIfInBounds_toArray, List.set_cons_zero, List.set_cons_succ]
            refine wpAnyM_take (i := 1) (v := ?vm18) rfl (by kernel_rfl) (by decide) (by kernel_rfl) (by kernel_rfl) (by kernel_rfl) (fun _ _ _ h => h) (Or.inl ⟨by rfl, ?hm18⟩) (by assumption) ?_
            case hm18 => (intro w hSw; (try dsimp only at hSw); go_simp; first | done | with_reducible rfl)
            try simp only [Act.put, List.setIfInBounds_toArray, List.set_cons_zero, List.set_cons_succ]
            refine wpAnyM_take (i := 2) (v := ?vm19) rfl (by kernel_rfl) (by decide) (by kernel_rfl) (by kernel_rfl) (by kernel_rfl) (fun _ _ _ h => h) (Or.inl ⟨by rfl, ?hm19⟩) (by assumption) ?_
            case hm19 => (intro w hSw; (try dsimp only at hSw); go_simp; first | done | with_reducible rfl)
            try simp only [Act.put, List.setIfInBounds_toArray, List.set_cons_zero, List.set_cons_succ]
            refine wpAnyM_take (i := 3) (v := ?vm20) rfl (by kernel_rfl) (by decide) (by kernel_rfl) (by kernel_rfl) (by kernel_rfl) (fun _ _ _ h => h) (Or.inl ⟨by rfl, ?hm20⟩) (by assumption) ?_
            case hm20 => (intro w hSw; (try dsimp only at hSw); go_simp; first | done | with_reducible rfl)
            try simp only [Act.put, List.setIfInBounds_toArray, List.set_cons_zero, List.set_cons_succ]
            refine wpAnyM_take (i := 4) (v := ?vm21) rfl (by kernel_rfl) (by decide) (by kernel_rfl) (by kernel_rfl) (by kernel_rfl) (fun _ _ _ h => h) (Or.inl ⟨by rfl, ?hm21⟩) (by assumption) ?_
            case hm21 => (intro w hSw; (try dsimp only at hSw); go_simp; first | done | with_reducible rfl)
            try simp only [Act.put, List.setIfInBounds_toArray, List.set_cons_zero, List.set_cons_succ]
            refine wpAnyM_take (i := 5) (v := ?vm22) rfl (by kernel_rfl) (by decide) (by kernel_rfl) (by kernel_rfl) (by kernel_rfl) (fun _ _ _ h => h) (Or.inl ⟨by rfl, ?hm22⟩) (by assumption) ?_
            case hm22 => (intro w hSw; (try dsimp only at hSw); go_simp; first | done | with_reducible rfl)
            try simp only [Act.put, List.setIfInBounds_toArray, List.set_cons_zero, List.set_cons_succ]
            refine wpAnyM_take (i := 6) (v := ?vm23) rfl (by kernel_rfl) (by decide) (by kernel_rfl) (by kernel_rfl) (by kernel_rfl) (fun _ _ _ h => h) (Or.inl ⟨by rfl, ?hm23⟩) (by assumption) ?_
            case hm23 => (intro w hSw; (try dsimp only at hSw); go_simp; first | done | with_reducible rfl)
            try simp only [Act.put, List.setIfInBounds_toArray, List.set_cons_zero, List.set_cons_succ]
            refine wpAnyM_take (i := 7) (v := ?vm24) rfl (by kernel_rfl) (by decide) (by kernel_rfl) (by kernel_rfl) (by kernel_rfl) (fun _ _ _ h => h) (Or.inl ⟨by rfl, ?hm24⟩) (by assumption) ?_
            case hm24 => (intro w hSw; (try dsimp only at hSw); go_simp; first | done | with_reducible rfl)
            try simp only [Act.put, List.setIfInBounds_toArray, List.set_cons_zero, List.set_cons_succ]
            refine wpAnyM_take (i := 9) (v := ?vm25) rfl (by kernel_rfl) (by decide) (by kernel_rfl) (by kernel_rfl) (by kernel_rfl) (fun _ _ _ h => h) (Or.inl ⟨by rfl, ?hm25⟩) (by assumption) ?_
            case hm25 => (intro w hSw; (try dsimp only at hSw); go_simp; first | done | with_reducible rfl)
            try simp only [Act.put, List.setIfInBounds_toArray, List.set_cons_zero, List.set_cons_succ]
            refine wpAnyM_one (i := 8) (by kernel_rfl) rfl (fun K hK => ?_)
            go_simp
            go_at_call 75
            refine (mask_meet _ _).mono ?_
            rintro e wc ⟨rfl, hb⟩
            have Kc := Lib.hid (Kd.out.trans (hb.mono Kd.out.size))
            clear hb
            go_wp2_with fail
            refine hK.out _ _ (fun _ => HSw.out _ Kc.out) (fun hHeld => ?_)
            have hHeld := hHeld (by decide)
            clear hK K
            try simp only [Act.put, List.setIfInBounds_toArray, List.set_cons_zero, List.set_cons_succ]
            refine wpAnyM_one (i := 10) (by kernel_rfl) rfl (fun K hK => ?_)
            go_simp
            go_at_call 136
            refine (mask_less _ _).mono ?_
            rintro e we ⟨rfl, hb⟩
            have Ke := Lib.hid (Kc.out.trans (hb.mono Kc.out.size))
            clear hb
            go_wp2_with fail
            refine hK.out _ _ (fun _ => HSw.out _ Ke.out) (fun hHeld => ?_)
            have hHeld := hHeld (by decide)
            clear hK K
            try simp only [Act.put, List.setIfInBounds_toArray, List.set_cons_zero, List.set_cons_succ]
            refine wpAnyM_one (i := 11) (by kernel_rfl) rfl (fun K hK => ?_)
            go_simp
            go_at_call 131
            refine (HX.out _).mono ?_
            rintro e wf ⟨rfl, hb⟩
            have Kf := Lib.hid (Ke.out.trans (hb.mono Ke.out.size))
            clear hb
            go_wp2_with fail
            refine hK.out _ _ (fun _ => HSw.out _ Kf.out) (fun hHeld => ?_)
            have hHeld := hHeld (by decide)
            clear hK K
            try simp only [Act.put, List.setIfInBounds_toArray, List.set_cons_zero, List.set_cons_succ]
            clear hHeld
            refine wpAnyM_done (by kernel_rfl) ?_ _
            refine calm_normal ?_
            have HSu : Hid (∀ W', Below wf.heap.size wf W' → W'.cell? ⟨gF, 0, none⟩ = some (.int .u64 (maskW T 0)) ∧ W'.cell? ⟨gF, 1, none⟩ = some (.int .u64 (maskW T 1)) ∧ W'.cell? ⟨gF, 2, none⟩ = some (.int .u64 (maskW T 2)) ∧ W'.cell? ⟨gF, 3, none⟩ = some (.int .u64 (maskW T 3))) := fun W' hb => by
              have m1 := (HR.out.below Kf.out).below hb
              exact ⟨m1.c0, m1.c1, m1.c2, m1.c3⟩
            have Ke : Hid (Below wf.heap.size wf wf.drew) := (Below.refl _ _).drew
            have hv256 : v < 256 := by omega
            gi_wp2
            refine wpIn_region_M (S := (fun W' => W'.cell? ⟨gF, 0, none⟩ = some (.int .u64 (maskW T 0)) ∧ W'.cell? ⟨gF, 1, none⟩ = some (.int .u64 (maskW T 1)) ∧ W'.cell? ⟨gF, 2, none⟩ = some (.int .u64 (maskW T 2)) ∧ W'.cell? ⟨gF, 3, none⟩ = some (.int .u64 (maskW T 3)))) (m := 5) (by kernel_rfl) (by kernel_rfl) (HSu.out _ Ke.out) (fun hHeld => ?_)
            refine wpAnyM_take (i := 0) (v := ?vm15) rfl (by kernel_rfl) (by decide) (by kernel_rfl) (by kernel_rfl) (by kernel_rfl) (fun _ _ _ h => h) (Or.inl ⟨by rfl, ?hm15⟩) (by assumption) ?_
            case hm15 => (intro w hSw; (try dsimp only at hSw); go_simp; first | done | with_reducible rfl)
            try simp only [Act.put, List.setIfInBounds_toArray, List.set_cons_zero, List.set_cons_succ]
            refine wpAnyM_take (i := 1) (v := ?vm16) rfl (by kernel_rfl) (by decide) (by kernel_rfl) (by kernel_rfl) (by kernel_rfl) (fun _ _ _ h => h) (Or.inl ⟨by rfl, ?hm16⟩) (by assumption) ?_
            case hm16 => (intro w hSw; (try dsimp only at hSw); go_simp; first | done | with_reducible rfl)
            try simp only [Act.put, List.setIfInBounds_toArray, List.set_cons_zero, List.set_cons_succ]
            refine wpAnyM_one (i := 2) (by kernel_rfl) rfl (fun K hK => ?_)
            go_simp
            have Kg : Hid (Below wf.heap.size wf (wf.alloc (.cells #[.int .i64 (v : Int)] 2)).drew) := (below1 _ _).drew
            have hcell : (wf.alloc (.cells #[.int .i64 (v : Int)] 2)).drew.cell? ⟨wf.heap.size, 0, none⟩ = some (.int .i64 (v : Int)) := (Boxed.new wf _ _).cell
            refine hK.out _ _ (fun _ => HSu.out _ Kg.out) (fun hHeld => ?_)
            have hHeld := hHeld (by decide)
            clear hK K
            try simp only [Act.put, List.setIfInBounds_toArray, List.set_cons_zero, List.set_cons_succ]
            refine wpAnyM_one (i := 3) (by kernel_rfl) rfl (fun K hK => ?_)
            go_simp
            go_at_call 74
            refine (maskOf_one hcell hv256).mono ?_
            rintro e wk ⟨rfl, hb⟩
            have Kk := Lib.hid (Kg.out.trans (hb.mono Kg.out.size))
            clear hb
            go_wp2_with fail
            refine hK.out _ _ (fun _ => HSu.out _ Kk.out) (fun hHeld => ?_)
            have hHeld := hHeld (by decide)
            clear hK K
            try simp only [Act.put, List.setIfInBounds_toArray, List.set_cons_zero, List.set_cons_succ]
            refine wpAnyM_one (i := 4) (by kernel_rfl) rfl (fun K hK => ?_)
            go_simp
            go_at_call 107
            refine (mask_with _ _).mono ?_
            rintro e wm ⟨rfl, hb⟩
            have Km := Lib.hid (Kk.out.trans (hb.mono Kk.out.size))
            clear hb
            go_wp2_with fail
            refine hK.out _ _ (fun _ => HSu.out _ Km.out) (fun hHeld => ?_)
            have hHeld := hHeld (by decide)
            clear hK K
            try simp only [Act.put, List.setIfInBounds_toArray, List.set_cons_zero, List.set_cons_succ]
            have mA := (HR.out.below Kf.out).below Km.out
            have z0 := mA.c0
            have fz0 := mA.frozen 0
            have z1 := mA.c1
            have fz1 := mA.frozen 1
            have z2 := mA.c2
            have fz2 := mA.frozen 2
            have z3 := mA.c3
            have fz3 := mA.frozen 3
            have mq := Lib.hid (mA.put4 (orB T (oneB v)))
            clear hHeld mA
            refine wpAnyM_one (i := 5) (by kernel_rfl) rfl (fun K hK => ?_)
            go_simp
            refine hK.out _ _ (fun h => absurd h (by decide)) (fun _ => ?_)
            clear hK K
            try simp only [Act.put, List.setIfInBounds_toArray, List.set_cons_zero, List.set_cons_succ]
            refine wpAnyM_done (by kernel_rfl) ?_ _
            refine calm_normal ?_
            refine ⟨only_put4 (Only.of_below Kf.out |>.trans (Only.of_below Km.out) |>.mono fun k hk => hk) (.inl rfl) _ _ _ _ 0, ?_⟩
            show MaskAt _ _ _
            rw [HTT.out, HY.out]
            exact mq.out
          | false =>
            replace HZ := Lib.hid (HZ.out hsh)
            have HX := Lib.hid (fun w => mask_isEmpty (w := w) (lessB (andB (E v) I) A) hsh)
            clear hsh HY
            refine wpIn_region_M (S := (fun W' => W'.cell? ⟨w.heap.size, 0, none⟩ = some (.pointer (some ⟨b, 0, none⟩)) ∧ W'.cell? ⟨b, 172, none⟩ = some (.slice (some ⟨nb, 0, none⟩) n n) ∧ W'.cell? ⟨nb, v * 4, none⟩ = some (.int .u64 (maskW (E v) 0)) ∧ W'.cell? ⟨nb, v * 4 + 1, none⟩ = some (.int .u64 (maskW (E v) 1)) ∧ W'.cell? ⟨nb, v * 4 + 2, none⟩ = some (.int .u64 (maskW (E v) 2)) ∧ W'.cell? ⟨nb, v * 4 + 3, none⟩ = some (.int .u64 (maskW (E v) 3)) ∧ W'.cell? ⟨w.heap.size + 1, 0, none⟩ = some (.int .u64 (maskW I 0)) ∧ W'.cell? ⟨w.heap.size + 1, 1, none⟩ = some (.int .u64 (maskW I 1)) ∧ W'.cell? ⟨w.heap.size + 1, 2, none⟩ = some (.int .u64 (maskW I 2)) ∧ W'.cell? ⟨w.heap.size + 1, 3, none⟩ = some (.int .u64 (maskW I 3)) ∧ W'.cell? ⟨w.heap.size + 1 + 1 + 1 + 1, 0, none⟩ = some (.int .u64 (maskW A 0)) ∧ W'.cell? ⟨w.heap.size + 1 + 1 + 1 + 1, 1, none⟩ = some (.int .u64 (maskW A 1)) ∧ W'.cell? ⟨w.heap.size + 1 + 1 + 1 + 1, 2, none⟩ = some (.int .u64 (maskW A 2)) ∧ W'.cell? ⟨w.heap.size + 1 + 1 + 1 + 1, 3, none⟩ = some (.int .u64 (maskW A 3)))) (m := 12) (by kernel_rfl) (by kernel_rfl) (HSw.out _ Kd.out) (fun hHeld => ?_)
            refine wpAnyM_take (i := 0) (v := ?vm26) rfl (by kernel_rfl) (by decide) (by kernel_rfl) (by kernel_rfl) (by kernel_rfl) (fun _ _ _ h => h) (Or.inl ⟨by rfl, ?hm26⟩) (by assumption) ?_
            case hm26 => (intro w hSw; (try dsimp only at hSw); go_simp; first | done | with_reducible rfl)
            try simp only [Act.put, List.setIfInBounds_toArray, List.set_cons_zero, List.set_cons_succ]
            refine wpAnyM_take (i := 1) (v := ?vm27) rfl (by kernel_rfl) (by decide) (by kernel_rfl) (by kernel_rfl) (by kernel_rfl) (fun _ _ _ h => h) (Or.inl ⟨by rfl, ?hm27⟩) (by assumption) ?_
            case hm27 => (intro w hSw; (try dsimp only at hSw); go_simp; first | done | with_reducible rfl)
            try simp only [Act.put, List.setIfInBounds_toArray, List.set_cons_zero, List.set_cons_succ]
            refine wpAnyM_take (i := 2) (v := ?vm28) rfl (by kernel_rfl) (by decide) (by kernel_rfl) (by kernel_rfl) (by kernel_rfl) (fun _ _ _ h => h) (Or.inl ⟨by rfl, ?hm28⟩) (by assumption) ?_
            case hm28 => (intro w hSw; (try dsimp only at hSw); go_simp; first | done | with_reducible rfl)
            try simp only [Act.put, List.setIfInBounds_toArray, List.set_cons_zero, List.set_cons_succ]
            refine wpAnyM_take (i := 3) (v := ?vm29) rfl (by kernel_rfl) (by decide) (by kernel_rfl) (by kernel_rfl) (by kernel_rfl) (fun _ _ _ h => h) (Or.inl ⟨by rfl, ?hm29⟩) (by assumption) ?_
            case hm29 => (intro w hSw; (try dsimp only at hSw); go_simp; first | done | with_reducible rfl)
            try simp only [Act.put, List.setIfInBounds_toArray, List.set_cons_zero, List.set_cons_succ]
            refine wpAnyM_take (i := 4) (v := ?vm30) rfl (by kernel_rfl) (by decide) (by kernel_rfl) (by kernel_rfl) (by kernel_rfl) (fun _ _ _ h => h) (Or.inl ⟨by rfl, ?hm30⟩) (by assumption) ?_
            case hm30 => (intro w hSw; (try dsimp only at hSw); go_simp; first | done | with_reducible rfl)
            try simp only [Act.put, List.setIfInBounds_toArray, List.set_cons_zero, List.set_cons_succ]
            refine wpAnyM_take (i := 5) (v := ?vm31) rfl (by kernel_rfl) (by decide) (by kernel_rfl) (by kernel_rfl) (by kernel_rfl) (fun _ _ _ h => h) (Or.inl ⟨by rfl, ?hm31⟩) (by assumption) ?_
            case hm31 => (intro w hSw; (try dsimp only at hSw); go_simp; first | done | with_reducible rfl)
            try simp only [Act.put, List.setIfInBounds_toArray, List.set_cons_zero, List.set_cons_succ]
            refine wpAnyM_take (i := 6) (v := ?vm32) rfl (by kernel_rfl) (by decide) (by kernel_rfl) (by kernel_rfl) (by kernel_rfl) (fun _ _ _ h => h) (Or.inl ⟨by rfl, ?hm32⟩) (by assumption) ?_
            case hm32 => (intro w hSw; (try dsimp only at hSw); go_simp; first | done | with_reducible rfl)
            try simp only [Act.put, List.setIfInBounds_toArray, List.set_cons_zero, List.set_cons_succ]
            refine wpAnyM_take (i := 7) (v := ?vm33) rfl (by kernel_rfl) (by decide) (by kernel_rfl) (by kernel_rfl) (by kernel_rfl) (fun _ _ _ h => h) (Or.inl ⟨by rfl, ?hm33⟩) (by assumption) ?_
            case hm33 => (intro w hSw; (try dsimp only at hSw); go_simp; first | done | with_reducible rfl)
            try simp only [Act.put, List.setIfInBounds_toArray, List.set_cons_zero, List.set_cons_succ]
            refine wpAnyM_take (i := 9) (v := ?vm34) rfl (by kernel_rfl) (by decide) (by kernel_rfl) (by kernel_rfl) (by kernel_rfl) (fun _ _ _ h => h) (Or.inl ⟨by rfl, ?hm34⟩) (by assumption) ?_
            case hm34 => (intro w hSw; (try dsimp only at hSw); go_simp; first | done | with_reducible rfl)
            try simp only [Act.put, List.setIfInBounds_toArray, List.set_cons_zero, List.set_cons_succ]
            refine wpAnyM_one (i := 8) (by kernel_rfl) rfl (fun K hK => ?_)
            go_simp
            go_at_call 75
            refine (mask_meet _ _).mono ?_
            rintro e wc ⟨rfl, hb⟩
            have Kc := Lib.hid (Kd.out.trans (hb.mono Kd.out.size))
            clear hb
            go_wp2_with fail
            refine hK.out _ _ (fun _ => HSw.out _ Kc.out) (fun hHeld => ?_)
            have hHeld := hHeld (by decide)
            clear hK K
            try simp only [Act.put, List.setIfInBounds_toArray, List.set_cons_zero, List.set_cons_succ]
            refine wpAnyM_one (i := 10) (by kernel_rfl) rfl (fun K hK => ?_)
            go_simp
            go_at_call 136
            refine (mask_less _ _).mono ?_
            rintro e we ⟨rfl, hb⟩
            have Ke := Lib.hid (Kc.out.trans (hb.mono Kc.out.size))
            clear hb
            go_wp2_with fail
            refine hK.out _ _ (fun _ => HSw.out _ Ke.out) (fun hHeld => ?_)
            have hHeld := hHeld (by decide)
            clear hK K
            try simp only [Act.put, List.setIfInBounds_toArray, List.set_cons_zero, List.set_cons_succ]
            refine wpAnyM_one (i := 11) (by kernel_rfl) rfl (fun K hK => ?_)
            go_simp
            go_at_call 131
            refine (HX.out _).mono ?_
            rintro e wf ⟨rfl, hb⟩
            have Kf := Lib.hid (Ke.out.trans (hb.mono Ke.out.size))
            clear hb
            go_wp2_with fail
            refine hK.out _ _ (fun _ => HSw.out _ Kf.out) (fun hHeld => ?_)
            have hHeld := hHeld (by decide)
            clear hK K
            try simp only [Act.put, List.setIfInBounds_toArray, List.set_cons_zero, List.set_cons_succ]
            clear hHeld
            refine wpAnyM_done (by kernel_rfl) ?_ _
            refine calm_normal ?_
            gi_wp2
            refine ⟨Only.of_below Kf.out, ?_⟩
            show MaskAt _ _ _
            rw [HTT.out, HZ.out]
            exact HR.out.below Kf.out
        case done =>
          intro D xs W hD hxs hR hO hK
          have hNx : gatB (nearB Pd I A F) (Ow i) (shutB E I A) xs = nextB E Pd (Ow i) I A F := by
            have := HJ.out
            subst this
            exact gat_all HI.out hn hxs
          rw [hNx] at hR
          have HRN := Lib.hid (HFI.out.next HG.out.rows.inG (HG.out.next hi HFn.out hn))
          have HWL := Lib.hid (wait_less (R := A) (F := F) (F' := nextB E Pd (Ow i) I A F) H0.out (fun u hu => by
            unfold nextB nearB lessB at hu
            simp only [Bool.and_eq_true, Bool.not_eq_true'] at hu
            exact hu.1.2))
          obtain ⟨N, hN⟩ : ∃ N, nextB E Pd (Ow i) I A F = N := ⟨_, rfl⟩
          rw [hN] at hR HRN HWL
          clear hNx hN hxs
          have HR := Lib.hid hR
          have HMr := Lib.hid (HM6.out.only hO (by have := HM6.out.lt; omega))
          have HMK7 : Hid (MarksAt W w1.heap.size ds) := HMK6.out.only hO fun D' hD' hDl => by
            rcases hD' with hD' | hD'
            · rw [hD']; exact not_mark HF6.out rfl
            · omega
          have HMK8 : Hid (MarksAt W w1.heap.size ({ target := .collected D, args := #[] } :: ds)) := ⟨⟨D, rfl, by have := O8.out.size; omega, hK, HMK6.out.fresh fun d hd => by
            obtain ⟨E', h1, h2⟩ := HMK6.out.lt d hd
            exact ⟨E', h1, by omega⟩⟩, HMK7.out⟩
          have O9 : Hid (Only (fun k => k = w.heap.size + 1 + 1 + 1 + 1 ∨ w.heap.size + 1 + 1 + 1 + 1 + 1 ≤ k) w1 W) := O8.out.trans (hO.mono fun k hk => by have := O8.out.size; omega)
          have HS9 : Hid (w1.heap.size ≤ W.heap.size) := O9.out.size
          have n0 := HR.out.c0
          have n1 := HR.out.c1
          have n2 := HR.out.c2
          have n3 := HR.out.c3
          have r0 := HMr.out.c0
          have r1 := HMr.out.c1
          have r2 := HMr.out.c2
          have r3 := HMr.out.c3
          have s0 := HMr.out.lt
          clear hR hO hK hD HMK7 HMK6 HF6 HM6 HI6 bP6 bR6
          go_wp2_with fail
          refine (mask_with A N).mono ?_
          rintro e wh ⟨rfl, hb⟩
          have Bh : Hid (Below W.heap.size W wh) := (below1 W _).trans (hb.mono (by simp))
          have HM7 := Lib.hid (HMr.out.below Bh.out)
          have HN7 := Lib.hid ((MaskAt.new W N).below hb)
          have k0 := HM7.out.frozen 0
          have k1 := HM7.out.frozen 1
          have k2 := HM7.out.frozen 2
          have k3 := HM7.out.frozen 3
          have l0 := HM7.out.c0
          have l1 := HM7.out.c1
          have l2 := HM7.out.c2
          have l3 := HM7.out.c3
          clear hb n0 n1 n2 n3 r0 r1 r2 r3
          go_wp2
          go_roundg (waitN (orB A N) N)
          case measure => rw [hgk]; exact HWL.out
          case rel =>
            have hs9 := HS9.out
            have Op : Hid (Only (fun k => k = w.heap.size + 1 + 1 + 1 + 1) wh _) := only_put4 (S := fun k => k = w.heap.size + 1 + 1 + 1 + 1) (Only.refl _ wh) (g := w.heap.size + 1 + 1 + 1 + 1) rfl (.int .u64 (maskW (orB A N) 0)) (.int .u64 (maskW (orB A N) 1)) (.int .u64 (maskW (orB A N) 2)) (.int .u64 (maskW (orB A N) 3)) 0
            refine ⟨W.heap.size, orB A N, N, rfl, by omega, rfl, HRN.out, HM7.out.put4 _, HN7.out.only Op.out (by omega), (O9.out.trans (Only.of_below Bh.out)).trans (Op.out.mono fun k hk => .inl hk), (HMK8.out.only (S := fun _ => False) (Only.of_below Bh.out) fun _ h => h.elim).only Op.out fun D' hD' _ => ?_⟩
            rw [hD']; exact not_mark HM7.out rfl
        case stop => intro D c pre W _ _ h _ _; exact h.elim

end
end Go.Proofs.YtphkgnpkcfbnkabDoor
