import Derived.Deep.LoopGhost
import Derived.Deep.DeepCutAuto
import Derived.Test.YtglbkbiphcgidaaDoorPm10
namespace Go.Proofs.YtglbkbiphcgidaaDoor
section
open Go.RowKit Go.Shelf
attribute [local go_sem] Oper.semAt_some
def fQ (w : World) (B : Nat) : List Deferred → Prop
 | [] => True
 | d :: ds => (∃ D, d = { target := .collected D, args := #[] } ∧ B ≤ D ∧ w.heap[D]? = some (.deferred (some [])) ∧ ∀ d' ∈ ds, d' ≠ d) ∧ fQ w B ds
theorem fQ.only {S : Nat → Prop} {w w' : World} {B : Nat} (hk : Only S w w') (hS : ∀ D, S D → D < w.heap.size → w.heap[D]? ≠ some (.deferred (some []))) : ∀ {ds : List Deferred}, fQ w B ds → fQ w' B ds
 | [], _ => trivial
 | d :: ds, h => by
   obtain ⟨⟨D, hd, hB, hD, hne⟩, ht⟩ := h
   have hlt := (Array.getElem?_eq_some_iff.1 hD).1
   exact ⟨⟨D, hd, hB, (hk.block D hlt fun hs => hS D hs hlt hD).trans hD, hne⟩, fQ.only hk hS ht⟩
theorem DJ {w : World} {g : Nat} {o : Obj} (h : w.heap[g]? = some o) (ho : o.isCells = true) : w.heap[g]? ≠ some (.deferred (some [])) := fun e => by
 rw [h] at e
 cases e
 cases ho
theorem fQ.fresh {w : World} {B D : Nat} : ∀ {ds : List Deferred}, fQ w B ds → (∀ d ∈ ds, ∃ E, d = { target := .collected E, args := #[] } ∧ E < D) → ∀ d' ∈ ds, d' ≠ { target := .collected D, args := #[] }
 | ds, _, h, d', hd', e => by
   obtain ⟨E, h1, h2⟩ := h d' hd'
   rw [h1] at e
   injection e with e1 _
   injection e1 with e2
   omega
theorem fQ.lt {w : World} {B : Nat} : ∀ {ds : List Deferred}, fQ w B ds → ∀ d ∈ ds, ∃ E, d = { target := .collected E, args := #[] } ∧ E < w.heap.size
 | [], _, d, h => by cases h
 | x :: ds, h, d, hd => by
   obtain ⟨⟨D, hx, _, hD, _⟩, ht⟩ := h
   rcases List.mem_cons.1 hd with rfl | hd
   · exact ⟨D, hx, (Array.getElem?_eq_some_iff.1 hD).1⟩
   · exact fQ.lt ht d hd
theorem aa6 {fn : Func} {p : Tmp} {tmps : Array Value} {g B : Nat} {K : Nat → Bool} {R : Ending → World → Prop} (hr : fn.results = #[.cell p 69]) (hp : tmps.getD p undef = .pointer (some ⟨g, 0, none⟩)) : ∀ {ds : List Deferred} {W : World},
 aH W g K → fQ W B ds → (∀ W', Only (fun k => B ≤ k ∧ k ≠ g) W W' → R (.returned (aW K)) W') → bodyPostM Fence.wide 4 Tryd.prog fn R .ret { tmps := tmps, defers := ds } W
 | [], W, hM, _, hR => by
   exact ⟨_, results_cell_row hr tmps _ g _ _ _ (.array 4 67) hp hM (by kernel_rfl) rfl (by kernel_rfl), hR W (Only.refl _ _)⟩
 | d :: ds, W, hM, hK, hR => by
   obtain ⟨⟨D, hd, hB, hD, hne⟩, ht⟩ := hK
   subst hd
   have MH : D ≠ g := fun e => by
    unfold aH at hM
    rw [← e, hD] at hM
    cases hM
   have ho : Only (fun k => B ≤ k ∧ k ≠ g) W (W.putObj D (.deferred none)) := (Only.dV (grownBy_putObj' W D _)).mono fun k hk => by cases hk; exact ⟨hB, MH⟩
   have hod : Only (fun k => k = D) W (W.putObj D (.deferred none)) := (Only.dV (grownBy_putObj' W D _)).mono fun k hk => by cases hk; rfl
   have ht2 : ∀ {es : List Deferred}, fQ W B es → (∀ d' ∈ es, d' ≠ { target := .collected D, args := #[] }) → fQ (W.putObj D (.deferred none)) B es := fun {es} => by
    induction es with
    | nil => intro _ _; trivial
    | cons x es ih =>
      intro h hn
      obtain ⟨⟨E, hx, Jz, hE, hnx⟩, h2⟩ := h
      have JA : E ≠ D := fun e => hn x (by simp) (by rw [hx, e])
      exact ⟨⟨E, hx, Jz, (hod.block E (Array.getElem?_eq_some_iff.1 hE).1 JA).trans hE, hnx⟩, ih h2 fun d' hd' => hn d' (by simp [hd'])⟩
   have rest := aa6 (R := R) (g := g) (B := B) hr hp (ds := ds) (W := W.putObj D (.deferred none)) (hM.only ho fun h => h.2 rfl) (ht2 ht hne) fun W' hW => hR W' (ho.trans hW)
   exact ⟨by simp, .inl ⟨_, _, rfl, run_takeDeferred hD, rest⟩⟩
noncomputable def lV (near own sh : Nat → Bool) {J : Nat → Bool} (pre : List (eH J)) : Nat → Bool := fun x => (near x && own x) || (pre.any (fun y => y.1 == x) && sh x)
theorem ag2 {near own sh J : Nat → Bool} : lV near own sh ([] : List (eH J)) = dR near own := funext fun x => by unfold lV dR; simp
theorem ag3 {near own sh J : Nat → Bool} {pre : List (eH J)} {x : eH J} (h : sh x.1 = true) : lV near own sh (pre ++ [x]) = aO (lV near own sh pre) (aS x.1) := funext fun y => by
 unfold lV aO aS
 by_cases e : x.1 = y
 · subst e; simp [h]
 · have e2 : ¬ y = x.1 := fun h => e h.symm
   simp [e2, beq_false_of_ne e]
theorem ag4 {near own sh J : Nat → Bool} {pre : List (eH J)} {x : eH J} (h : sh x.1 = false) : lV near own sh (pre ++ [x]) = lV near own sh pre := funext fun y => by
 unfold lV
 by_cases e : x.1 = y
 · subst e; simp [h]
 · simp [beq_false_of_ne e]
theorem ag5 {E Pd : Nat → Nat → Bool} {Ow I A F : Nat → Bool} {n : Nat} (hI : ∀ v, I v = true → v < n) (hn : n ≤ 256) {xs : List (eH (aQ (fJ Pd I A F) (dR (fJ Pd I A F) Ow)))} (h : jd xs = aU (aQ (fJ Pd I A F) (dR (fJ Pd I A F) Ow)) 256) :
 lV (fJ Pd I A F) Ow (pK E I A) xs = AU E Pd Ow I A F := funext fun x => by
 rw [Bool.eq_iff_iff]
 unfold lV AU
 simp only [Bool.or_eq_true, Bool.and_eq_true, List.any_eq_true, beq_iff_eq]
 constructor
 · rintro (⟨h1, h2⟩ | ⟨⟨y, _, hy⟩, h2⟩)
   · exact ⟨h1, .inl h2⟩
   · have h3 := y.2.2
     rw [hy] at h3
     unfold aQ at h3
     simp only [Bool.and_eq_true] at h3
     exact ⟨h3.1, .inr h2⟩
 · rintro ⟨h1, h2⟩
   cases ho : Ow x with
   | true => exact .inl ⟨h1, rfl⟩
   | false =>
     rw [ho] at h2
     have h3 : pK E I A x = true := by simpa using h2
     have hx : x < 256 := by
      have h4 := h1
      unfold fJ aQ dR at h4
      simp only [Bool.and_eq_true] at h4
      have := hI x h4.1.2
      omega
     obtain ⟨y, hy, hyx⟩ := UD h hx (by unfold aQ dR; rw [h1, ho]; rfl)
     exact .inr ⟨⟨y, hy, hyx⟩, h3⟩
theorem NY {w X : World} {o o' : Obj} (h : Below w.heap.size w (X.alloc o)) (hg : w.heap.size ≤ X.heap.size) : Below w.heap.size w (X.alloc o') :=
 ⟨h.os, h.tape, h.output, Nat.le_trans h.size (by simp), fun i hi => ((aA X o').block i (by omega)).trans (((aA X o).block i (by omega)).symm.trans (h.block i hi))⟩
theorem wp_cut {P : Program} {c : Code} {Q : Exit → Act → World → Prop} {a : Act} {w : World} (R : Act → World → Prop) (h1 : Code.wp P c (Exit.then R fun _ _ _ => False) a w) (h2 : ∀ a' w', R a' w' → Q .normal a' w') : Code.wp P c Q a w :=
 wp_mono h1 fun e a' w' h => by
  cases e with
  | normal => exact h2 _ _ h
  | _ => exact h.elim
set_option linter.unusedSimpArgs false in
set_option maxRecDepth 100000 in
set_option maxHeartbeats 8000000 in
theorem NZ {w : World} {b n nb pb kb i : Nat} {Ow Lv E Pd : Nat → Nat → Bool} {ah : List (List Int)} {O : List Int} {I G : Nat → Bool} (hT : dS w) (hR : dX w b n nb pb kb Ow Lv E Pd) (hG : jC ah O n Ow E Pd) (hi : i < 2) (hI : ∀ v, I v = true → v < n) (hGI : ∀ v, G v = true → I v = true) :
 Calls Tryd.prog 132 #[.pointer (some ⟨b, 0, none⟩), .int .i64 i, aW I, aW G] w fun e w' => e = .returned (aW (aN ah O i I G)) ∧ Below w.heap.size w w' := by
 have HG := Lib.hid hG
 have HI := Lib.hid hI
 have HGI := Lib.hid hGI
 have eU : Hid (∀ W', Only (fun k => w.heap.size ≤ k) w W' → dS W' ∧ dX W' b n nb pb kb Ow Lv E Pd) := fun W' ho =>
  ⟨hT.only ho (by have := hT.lt; omega), hR.only ho (by have := hR.lt; omega) (by have := hR.lt; omega) (by have := hR.lt; omega)⟩
 have hn := hR.small
 clear hT hR hG hI hGI
 refine (callsIn_wide (n := 4)).1 ?_
 refine callsIn_of_wp_marks Tryd.func132 rfl trivial ?_ rfl
 simp only [Tryd.ntmps132, List.size_toArray, List.length_cons, List.length_nil, Nat.reduceAdd, Nat.reduceSub, Array.replicate_succ, Array.replicate_zero, List.push_toArray, List.append_toArray, List.nil_append, List.cons_append]
 refine wpIn_wide.2 ?_
 go_wp2
 obtain ⟨w1, hw1⟩ : ∃ y, y = ((((((w.alloc (.cells #[.pointer (some ⟨b, 0, none⟩)] 76)).alloc (.cells #[.int .u64 (aj I 0), .int .u64 (aj I 1), .int .u64 (aj I 2), .int .u64 (aj I 3)] 69)).alloc (.cells #[.int .u64 (aj G 0), .int .u64 (aj G 1), .int .u64 (aj G 2), .int .u64 (aj G 3)] 69)).alloc (.cells #[.int .u64 0, .int .u64 0, .int .u64 0, .int .u64 0] 69)).alloc (.cells #[.int .u64 (aj G 0), .int .u64 (aj G 1), .int .u64 (aj G 2), .int .u64 (aj G 3)] 69)).alloc (.cells #[.int .u64 (aj G 0), .int .u64 (aj G 1), .int .u64 (aj G 2), .int .u64 (aj G 3)] 69)) := ⟨_, rfl⟩
 rw [← hw1]
 have HB : Hid (Below w.heap.size w w1) := by
  rw [hw1]
  exact (((((Below.refl _ _).alloc (Nat.le_refl _) _).alloc (by simp) _).alloc (by simp; omega) _).alloc (by simp; omega) _).alloc (by simp; omega) _ |>.alloc (by simp; omega) _
 have bP : Hid (Boxed w1 w.heap.size 76 (.pointer (some ⟨b, 0, none⟩))) := by
  rw [hw1]; exact dh (dh (dh (dh (dh (Boxed.new w 76 _) (aA _ _)) (aA _ _)) (aA _ _)) (aA _ _)) (aA _ _)
 have bI : Hid (aH w1 (w.heap.size + 1) I) := by
  rw [hw1]; exact ((((dP I _ (by simp)).below (aA _ _)).below (aA _ _)).below (aA _ _)).below (aA _ _)
 have bR : Hid (aH w1 (w.heap.size + 1 + 1 + 1) (fun _ => false)) := by
  rw [hw1, jP]; exact ((dP _ _ (by simp)).below (aA _ _)).below (aA _ _)
 have bA : Hid (aH w1 (w.heap.size + 1 + 1 + 1 + 1) G) := by rw [hw1]; exact (dP _ _ (by simp)).below (aA _ _)
 have bF : Hid (aH w1 (w.heap.size + 1 + 1 + 1 + 1 + 1) G) := by rw [hw1]; exact dP _ _ (by simp)
 have cO : Hid (w1.heap.size = w.heap.size + 6) := by rw [hw1]; simp [Hid]
 clear hw1
 refine wp_loop_ghost_k (fun gk a' wr => ∃ u10 u11 u12 u15 u16 iT jJ kU u20 u21 u22 u23 u24 u25 u26 u27 u28 u29 u30 u31 u32 u33 u34 u35 u36 u37 u38 pM u40 pO u42 pR u44 u45 u46 pU u48 u49 pV u51 pW u53 mO u55 mP mQ u58 u59 u60 u61, ∃ (ds : List Deferred), (∃ (gF : Nat) (A F : Nat → Bool), u10 = .pointer (some ⟨gF, 0, none⟩) ∧ w.heap.size + 1 + 1 + 1 + 1 + 1 ≤ gF ∧ gk = yE A F ∧ Hid (yC ah O i I G A F) ∧ Hid (aH wr (w.heap.size + 1 + 1 + 1 + 1) A) ∧ Hid (aH wr gF F) ∧ Hid (Only (fun k => k = w.heap.size + 1 + 1 + 1 + 1 ∨ w.heap.size + 1 + 1 + 1 + 1 + 1 ≤ k) w1 wr) ∧ Hid (fQ wr w1.heap.size ds)) ∧ a' = { tmps := #[.pointer (some ⟨b, 0, none⟩), .int .i64 i, aW I, aW G, .pointer (some ⟨w.heap.size, 0, none⟩), undef, .pointer (some ⟨w.heap.size + 1, 0, none⟩), .pointer (some ⟨w.heap.size + 1 + 1, 0, none⟩), .pointer (some ⟨w.heap.size + 1 + 1 + 1, 0, none⟩), .pointer (some ⟨w.heap.size + 1 + 1 + 1 + 1, 0, none⟩), u10, u11, u12, .agg #[.int .u64 (aj G 0), .int .u64 (aj G 1), .int .u64 (aj G 2), .int .u64 (aj G 3)], .agg #[.int .u64 (aj G 0), .int .u64 (aj G 1), .int .u64 (aj G 2), .int .u64 (aj G 3)], u15, u16, iT, jJ, kU, u20, u21, u22, u23, u24, u25, u26, u27, u28, u29, u30, u31, u32, u33, u34, u35, u36, u37, u38, pM, u40, pO, u42, pR, u44, u45, u46, pU, u48, u49, pV, u51, pW, u53, mO, u55, mP, mQ, u58, u59, u60, u61, undef], defers := ds }) (yE G G) ?start ?round
 case start => exact ⟨_, _, _, _, _, _, _, _, _, _, _, _, _, _, _, _, _, _, _, _, _, _, _, _, _, _, _, _, _, _, _, _, _, _, _, _, _, _, _, _, _, _, _, _, _, _, _, _, _, _, [], ⟨_, _, _, rfl, Nat.le_refl _, rfl, yC.start HG.out.rows.eu (fun v hv => by rw [HG.out.len]; exact HI.out v hv) HGI.out, bA, bF, Only.refl _ _, trivial⟩, rfl⟩
 case round =>
  intro gk _ wr hinv
  obtain ⟨u10, u11, u12, u15, u16, iT, jJ, kU, u20, u21, u22, u23, u24, u25, u26, u27, u28, u29, u30, u31, u32, u33, u34, u35, u36, u37, u38, pM, u40, pO, u42, pR, u44, u45, u46, pU, u48, u49, pV, u51, pW, u53, mO, u55, mP, mQ, u58, u59, u60, u61, ds, hrel, ha⟩ := hinv
  subst ha
  intro JJ KK hJJ hKK
  obtain ⟨gF, A, F, rfl, hgF, hgk, GH, HM, HF, HO, DK⟩ := hrel
  have hs1 := cO.out
  have hsr : w1.heap.size ≤ wr.heap.size := HO.out.size
  have UJ := Lib.hid (gK bP.out HO.out (by omega))
  have NV := Lib.hid (bI.out.only HO.out (by omega))
  have jI := Lib.hid (bR.out.only HO.out (by omega))
  have a0 := HF.out.c0
  have a1 := HF.out.c1
  have a2 := HF.out.c2
  have a3 := HF.out.c3
  cases h0 : lQ F with
  | true =>
    have HC := Lib.hid (fun w => rQ (w := w) F h0)
    have HA : Hid (A = aN ah O i I G) := GH.out.done HG.out.rows.eu (fun v hv => by rw [HG.out.len]; exact HI.out v hv) fun v => by
     cases hF : F v with
     | false => rfl
     | true =>
       have h1 := HI.out v (rH (GH.out.sound v (GH.out.front v hF)))
       have h2 := uq.1 h0 v (by omega)
       rw [hF] at h2; exact h2
    clear h0 hgk
    go_wp2_with (go_at_call 128; refine (HC.out _).mono ?_; rintro e wb ⟨rfl, hb⟩; have Kb := Lib.hid hb; have z1 := (HM.out.below hb).c0; have z2 := (HM.out.below hb).c1; have z3 := (HM.out.below hb).c2; have z4 := (HM.out.below hb).c3; have q1 := (jI.out.below hb).frozen 0; have q2 := (jI.out.below hb).frozen 1; have q3 := (jI.out.below hb).frozen 2; have q4 := (jI.out.below hb).frozen 3; have y1 := (jI.out.below hb).c0; have y2 := (jI.out.below hb).c1; have y3 := (jI.out.below hb).c2; have y4 := (jI.out.below hb).c3; clear hb)
    rw [← HA.out]
    have hO2 := dw (S := fun k => w.heap.size ≤ k) ((HO.out.mono fun k hk => by omega).trans (Only.of_below Kb.out)) (g := w.heap.size + 1 + 1 + 1) (by omega) (.int .u64 (aj A 0)) (.int .u64 (aj A 1)) (.int .u64 (aj A 2)) (.int .u64 (aj A 3)) 0
    have hMK := (DK.out.only (S := fun _ => False) (Only.of_below Kb.out) fun _ h => h.elim).only (dw (S := fun k => k = w.heap.size + 1 + 1 + 1) (Only.refl _ _) (g := w.heap.size + 1 + 1 + 1) rfl (.int .u64 (aj A 0)) (.int .u64 (aj A 1)) (.int .u64 (aj A 2)) (.int .u64 (aj A 3)) 0) fun D hD _ => by rw [hD]; exact DJ (jI.out.below Kb.out) rfl
    exact aa6 (g := w.heap.size + 1 + 1 + 1) (B := w1.heap.size) rfl rfl ((jI.out.below Kb.out).gV A) hMK fun W' ho => ⟨rfl, HB.out.trans ((hO2.trans (ho.mono fun k hk => by omega)).below (by omega) (fun k h => h))⟩
  | false => 
    have HC := Lib.hid (fun w => rQ (w := w) F h0)
    have DF : Hid (∀ v, F v = true → v < n) := fun v hv => HI.out v (rH (GH.out.sound v (GH.out.front v hv)))
    have H0 := Lib.hid h0
    clear h0
    go_wp2_with (go_at_call 128; refine (HC.out _).mono ?_; rintro e wb ⟨rfl, hb⟩)
    have Kb := Lib.hid hb
    have Gz := Lib.hid (HM.out.below hb)
    have HF2 := Lib.hid (HF.out.below hb)
    have HI2 := Lib.hid (NV.out.below hb)
    have AV := Lib.hid (dh UJ.out hb)
    have bR2 := Lib.hid (jI.out.below hb)
    have aa7 : Hid (fQ wb w1.heap.size ds) := DK.out.only (S := fun _ => False) (Only.of_below hb) fun _ h => h.elim
    have O1 : Hid (Only (fun k => w.heap.size ≤ k) w wb) := (Only.of_below HB.out).trans ((HO.out.mono fun k hk => by omega).trans (Only.of_below hb))
    have O2 : Hid (Only (fun k => k = w.heap.size + 1 + 1 + 1 + 1 ∨ w.heap.size + 1 + 1 + 1 + 1 + 1 ≤ k) w1 wb) := HO.out.trans (Only.of_below hb)
    have DI : Hid (wr.heap.size ≤ wb.heap.size) := hb.size
    have aC : Hid (∀ W', Below wb.heap.size wb W' → W'.cell? ⟨w.heap.size, 0, none⟩ = some (.pointer (some ⟨b, 0, none⟩)) ∧ W'.cell? ⟨b, 173, none⟩ = some (.slice (some ⟨pb, 0, none⟩) n n) ∧ W'.cell? ⟨gF, 0, none⟩ = some (.int .u64 (aj F 0)) ∧ W'.cell? ⟨gF, 1, none⟩ = some (.int .u64 (aj F 1)) ∧ W'.cell? ⟨gF, 2, none⟩ = some (.int .u64 (aj F 2)) ∧ W'.cell? ⟨gF, 3, none⟩ = some (.int .u64 (aj F 3)) ∧ W'.cell? ⟨w.heap.size + 1, 0, none⟩ = some (.int .u64 (aj I 0)) ∧ W'.cell? ⟨w.heap.size + 1, 1, none⟩ = some (.int .u64 (aj I 1)) ∧ W'.cell? ⟨w.heap.size + 1, 2, none⟩ = some (.int .u64 (aj I 2)) ∧ W'.cell? ⟨w.heap.size + 1, 3, none⟩ = some (.int .u64 (aj I 3)) ∧ W'.cell? ⟨w.heap.size + 1 + 1 + 1 + 1, 0, none⟩ = some (.int .u64 (aj A 0)) ∧ W'.cell? ⟨w.heap.size + 1 + 1 + 1 + 1, 1, none⟩ = some (.int .u64 (aj A 1)) ∧ W'.cell? ⟨w.heap.size + 1 + 1 + 1 + 1, 2, none⟩ = some (.int .u64 (aj A 2)) ∧ W'.cell? ⟨w.heap.size + 1 + 1 + 1 + 1, 3, none⟩ = some (.int .u64 (aj A 3))) := fun W' hb => by
     have m1 := HF2.out.below hb
     have m2 := HI2.out.below hb
     have m3 := Gz.out.below hb
     have m4 := dh AV.out hb
     have m5 := (eU.out _ (O1.out.trans (Only.of_below hb))).2.AQ
     exact ⟨m4.cell, m5, m1.c0, m1.c1, m1.c2, m1.c3, m2.c0, m2.c1, m2.c2, m2.c3, m3.c0, m3.c1, m3.c2, m3.c3⟩
    have Kd : Hid (Below wb.heap.size wb wb.drew) := (Below.refl _ _).drew
    clear hb a0 a1 a2 a3
    go_wp2_with fail
    refine wp_cut (fun a' wx => ∃ gN u12 u15 u16 iT jJ kU u20 u21 u22 u23 u24 u25 u26 u27 u28 u29 u30 u31 u32 u33 u34 u35 u36 u37 u38 pM u40 pO u42 pR u44 u45 u46 pU u48 u49 pV u51 pW u53 mO u55 mP mQ u58 u59 u60 u61, (wb.heap.size ≤ gN ∧ Hid (Below wb.heap.size wb wx) ∧ Hid (aH wx gN (fJ Pd I A F))) ∧ a' = { tmps := #[.pointer (some ⟨b, 0, none⟩), .int .i64 i, aW I, aW G, .pointer (some ⟨w.heap.size, 0, none⟩), undef, .pointer (some ⟨w.heap.size + 1, 0, none⟩), .pointer (some ⟨w.heap.size + 1 + 1, 0, none⟩), .pointer (some ⟨w.heap.size + 1 + 1 + 1, 0, none⟩), .pointer (some ⟨w.heap.size + 1 + 1 + 1 + 1, 0, none⟩), .pointer (some ⟨gF, 0, none⟩), .pointer (some ⟨gN, 0, none⟩), u12, .agg #[.int .u64 (aj G 0), .int .u64 (aj G 1), .int .u64 (aj G 2), .int .u64 (aj G 3)], .agg #[.int .u64 (aj G 0), .int .u64 (aj G 1), .int .u64 (aj G 2), .int .u64 (aj G 3)], u15, u16, iT, jJ, kU, u20, u21, u22, u23, u24, u25, u26, u27, u28, u29, u30, u31, u32, u33, u34, u35, u36, u37, u38, pM, u40, pO, u42, pR, u44, u45, u46, pU, u48, u49, pV, u51, pW, u53, mO, u55, mP, mQ, u58, u59, u60, u61, undef], defers := ds }) ?ag6 ?ag7
    case ag6 =>
     refine jB (S := (fun W' => W'.cell? ⟨w.heap.size, 0, none⟩ = some (.pointer (some ⟨b, 0, none⟩)) ∧ W'.cell? ⟨b, 173, none⟩ = some (.slice (some ⟨pb, 0, none⟩) n n) ∧ W'.cell? ⟨gF, 0, none⟩ = some (.int .u64 (aj F 0)) ∧ W'.cell? ⟨gF, 1, none⟩ = some (.int .u64 (aj F 1)) ∧ W'.cell? ⟨gF, 2, none⟩ = some (.int .u64 (aj F 2)) ∧ W'.cell? ⟨gF, 3, none⟩ = some (.int .u64 (aj F 3)) ∧ W'.cell? ⟨w.heap.size + 1, 0, none⟩ = some (.int .u64 (aj I 0)) ∧ W'.cell? ⟨w.heap.size + 1, 1, none⟩ = some (.int .u64 (aj I 1)) ∧ W'.cell? ⟨w.heap.size + 1, 2, none⟩ = some (.int .u64 (aj I 2)) ∧ W'.cell? ⟨w.heap.size + 1, 3, none⟩ = some (.int .u64 (aj I 3)) ∧ W'.cell? ⟨w.heap.size + 1 + 1 + 1 + 1, 0, none⟩ = some (.int .u64 (aj A 0)) ∧ W'.cell? ⟨w.heap.size + 1 + 1 + 1 + 1, 1, none⟩ = some (.int .u64 (aj A 1)) ∧ W'.cell? ⟨w.heap.size + 1 + 1 + 1 + 1, 2, none⟩ = some (.int .u64 (aj A 2)) ∧ W'.cell? ⟨w.heap.size + 1 + 1 + 1 + 1, 3, none⟩ = some (.int .u64 (aj A 3)))) (m := 11) (by kernel_rfl) (aC.out _ Kd.out) (fun hHd => ?_)
     refine aB (i := 0) (v := ?rW) rfl (by kernel_rfl) (by decide) (by kernel_rfl) (by kernel_rfl) (by kernel_rfl) (fun _ _ _ h => h) (Or.inl ⟨by rfl, ?hm1⟩) (by assumption) ?_
     case hm1 => (intro w hSw; (try dsimp only at hSw); go_simp; first | done | with_reducible rfl)
     try simp only [Act.put, g1, g2, g3]
     refine aB (i := 1) (v := ?rZ) rfl (by kernel_rfl) (by decide) (by kernel_rfl) (by kernel_rfl) (by kernel_rfl) (fun _ _ _ h => h) (Or.inl ⟨by rfl, ?hm2⟩) (by assumption) ?_
     case hm2 => (intro w hSw; (try dsimp only at hSw); go_simp; first | done | with_reducible rfl)
     try simp only [Act.put, g1, g2, g3]
     refine aB (i := 2) (v := ?su) rfl (by kernel_rfl) (by decide) (by kernel_rfl) (by kernel_rfl) (by kernel_rfl) (fun _ _ _ h => h) (Or.inl ⟨by rfl, ?iR⟩) (by assumption) ?_
     case iR => (intro w hSw; (try dsimp only at hSw); go_simp; first | done | with_reducible rfl)
     try simp only [Act.put, g1, g2, g3]
     refine aB (i := 3) (v := ?uF) rfl (by kernel_rfl) (by decide) (by kernel_rfl) (by kernel_rfl) (by kernel_rfl) (fun _ _ _ h => h) (Or.inl ⟨by rfl, ?hm4⟩) (by assumption) ?_
     case hm4 => (intro w hSw; (try dsimp only at hSw); go_simp; first | done | with_reducible rfl)
     try simp only [Act.put, g1, g2, g3]
     refine aB (i := 4) (v := ?wW) rfl (by kernel_rfl) (by decide) (by kernel_rfl) (by kernel_rfl) (by kernel_rfl) (fun _ _ _ h => h) (Or.inl ⟨by rfl, ?jQ⟩) (by assumption) ?_
     case jQ => (intro w hSw; (try dsimp only at hSw); go_simp; first | done | with_reducible rfl)
     try simp only [Act.put, g1, g2, g3]
     refine aB (i := 6) (v := ?yF) rfl (by kernel_rfl) (by decide) (by kernel_rfl) (by kernel_rfl) (by kernel_rfl) (fun _ _ _ h => h) (Or.inl ⟨by rfl, ?kV⟩) (by assumption) ?_
     case kV => (intro w hSw; (try dsimp only at hSw); go_simp; first | done | with_reducible rfl)
     try simp only [Act.put, g1, g2, g3]
     refine aB (i := 8) (v := ?AX) rfl (by kernel_rfl) (by decide) (by kernel_rfl) (by kernel_rfl) (by kernel_rfl) (fun _ _ _ h => h) (Or.inl ⟨by rfl, ?mV⟩) (by assumption) ?_
     case mV => (intro w hSw; (try dsimp only at hSw); go_simp; first | done | with_reducible rfl)
     try simp only [Act.put, g1, g2, g3]
     refine jA (i := 5) (j := 10) (by kernel_rfl) rfl rfl (fun K hK => ?_) (fun K hK => ?_)
     · skip
       go_simp
       go_at_call 156
       refine (UE (eU.out _ (O1.out.trans (Only.of_below (Kd.out)))).1 (eU.out _ (O1.out.trans (Only.of_below (Kd.out)))).2.back DF.out hn).mono ?_
       rintro e uI ⟨rfl, hb⟩
       have iU := Lib.hid ((Kd.out).trans (hb.mono (Kd.out).size))
       clear hb
       go_wp2_with fail
       refine hK.out _ _ (fun _ => aC.out _ iU.out) (fun hHd => ?_)
       have hHd := hHd (by decide)
       clear hK K
       try simp only [Act.put, g1, g2, g3]
       refine jA (i := 7) (j := 10) (by kernel_rfl) rfl rfl (fun K hK => ?_) (fun K hK => ?_)
       · skip
         go_simp
         go_at_call 111
         refine (yw _ _).mono ?_
         rintro e uJ ⟨rfl, hb⟩
         have iq := Lib.hid ((iU.out).trans (hb.mono (iU.out).size))
         clear hb
         go_wp2_with fail
         refine hK.out _ _ (fun _ => aC.out _ iq.out) (fun hHd => ?_)
         have hHd := hHd (by decide)
         clear hK K
         try simp only [Act.put, g1, g2, g3]
         refine jA (i := 9) (j := 10) (by kernel_rfl) rfl rfl (fun K hK => ?_) (fun K hK => ?_)
         · skip
           go_simp
           go_at_call 133
           refine (mJ _ _).mono ?_
           rintro e sF ⟨rfl, hb⟩
           have lW := Lib.hid ((iq.out).trans (hb.mono (iq.out).size))
           clear hb
           go_wp2_with fail
           refine hK.out _ _ (fun _ => aC.out _ lW.out) (fun hHd => ?_)
           have hHd := hHd (by decide)
           clear hK K
           try simp only [Act.put, g1, g2, g3]
           refine aG (i := 10) (by kernel_rfl) rfl (fun K hK => ?_)
           go_simp
           have kW : Hid (aH (sF.alloc (.cells #[.int .u64 0, .int .u64 0, .int .u64 0, .int .u64 0] 69)) sF.heap.size (fun _ => false)) := by rw [jP]; exact dP _ _ rfl
           have pX : Hid (Below wb.heap.size wb (sF.alloc (.cells #[.int .u64 0, .int .u64 0, .int .u64 0, .int .u64 0] 69))) := (lW.out).trans ((aA _ _).mono (lW.out).size)
           have gx : wb.heap.size ≤ sF.heap.size := (lW.out).size
           refine hK.out _ _ (fun _ => aC.out _ pX.out) (fun hHd => ?_)
           have hHd := hHd (by decide)
           clear hK K
           try simp only [Act.put, g1, g2, g3]
           have mz := Lib.hid (kW.out.gV (fJ Pd I A F))
           have z0 := kW.out.c0
           have fz0 := kW.out.frozen 0
           have z1 := kW.out.c1
           have gz := kW.out.frozen 1
           have z2 := kW.out.c2
           have gB := kW.out.frozen 2
           have z3 := kW.out.c3
           have fz3 := kW.out.frozen 3
           have Kz := Lib.hid (pX.out)
           clear hHd
           refine aG (i := 11) (by kernel_rfl) rfl (fun K hK => ?_)
           go_simp
           refine hK.out _ _ (fun h => absurd h (by decide)) (fun _ => ?_)
           clear hK K
           try simp only [Act.put, g1, g2, g3]
           refine dA (by kernel_rfl) ?_ _
           first | exact ⟨_, _, _, _, _, _, _, _, _, _, _, _, _, _, _, _, _, _, _, _, _, _, _, _, _, _, _, _, _, _, _, _, _, _, _, _, _, _, _, _, _, _, _, _, _, _, _, _, _, ⟨gx, NY Kz.out gx, dP _ _ rfl⟩, rfl⟩ | exact ⟨_, _, _, _, _, _, _, _, _, _, _, _, _, _, _, _, _, _, _, _, _, _, _, _, _, _, _, _, _, _, _, _, _, _, _, _, _, _, _, _, _, _, _, _, _, _, _, _, _, ⟨gx, (dw (S := fun k => wb.heap.size ≤ k) (Only.of_below Kz.out) gx _ _ _ _ 0).below (Nat.le_refl _) (fun k h => h), mz.out⟩, rfl⟩
         · skip
           go_simp
           have N7 : Hid (aH (uJ.alloc (.cells #[.int .u64 0, .int .u64 0, .int .u64 0, .int .u64 0] 69)) uJ.heap.size (fun _ => false)) := by rw [jP]; exact dP _ _ rfl
           have jR : Hid (Below wb.heap.size wb (uJ.alloc (.cells #[.int .u64 0, .int .u64 0, .int .u64 0, .int .u64 0] 69))) := (iq.out).trans ((aA _ _).mono (iq.out).size)
           have gx : wb.heap.size ≤ uJ.heap.size := (iq.out).size
           refine hK.out _ _ (fun _ => aC.out _ jR.out) (fun hHd => ?_)
           have hHd := hHd (by decide)
           clear hK K
           try simp only [Act.put, g1, g2, g3]
           refine aG (i := 9) (by kernel_rfl) rfl (fun K hK => ?_)
           go_simp
           go_at_call 133
           refine (mJ _ _).mono ?_
           rintro e wx6 ⟨rfl, hb⟩
           have wY := Lib.hid ((jR.out).trans (hb.mono (jR.out).size))
           have kX := Lib.hid (N7.out.below hb)
           clear hb
           go_wp2_with fail
           refine hK.out _ _ (fun _ => aC.out _ wY.out) (fun hHd => ?_)
           have hHd := hHd (by decide)
           clear hK K
           try simp only [Act.put, g1, g2, g3]
           have mz := Lib.hid (kX.out.gV (fJ Pd I A F))
           have z0 := kX.out.c0
           have fz0 := kX.out.frozen 0
           have z1 := kX.out.c1
           have gz := kX.out.frozen 1
           have z2 := kX.out.c2
           have gB := kX.out.frozen 2
           have z3 := kX.out.c3
           have fz3 := kX.out.frozen 3
           have Kz := Lib.hid (wY.out)
           clear hHd
           refine aG (i := 11) (by kernel_rfl) rfl (fun K hK => ?_)
           go_simp
           refine hK.out _ _ (fun h => absurd h (by decide)) (fun _ => ?_)
           clear hK K
           try simp only [Act.put, g1, g2, g3]
           refine dA (by kernel_rfl) ?_ _
           first | exact ⟨_, _, _, _, _, _, _, _, _, _, _, _, _, _, _, _, _, _, _, _, _, _, _, _, _, _, _, _, _, _, _, _, _, _, _, _, _, _, _, _, _, _, _, _, _, _, _, _, _, ⟨gx, NY Kz.out gx, dP _ _ rfl⟩, rfl⟩ | exact ⟨_, _, _, _, _, _, _, _, _, _, _, _, _, _, _, _, _, _, _, _, _, _, _, _, _, _, _, _, _, _, _, _, _, _, _, _, _, _, _, _, _, _, _, _, _, _, _, _, _, ⟨gx, (dw (S := fun k => wb.heap.size ≤ k) (Only.of_below Kz.out) gx _ _ _ _ 0).below (Nat.le_refl _) (fun k h => h), mz.out⟩, rfl⟩
       · skip
         go_simp
         have UK : Hid (aH (uI.alloc (.cells #[.int .u64 0, .int .u64 0, .int .u64 0, .int .u64 0] 69)) uI.heap.size (fun _ => false)) := by rw [jP]; exact dP _ _ rfl
         have pY : Hid (Below wb.heap.size wb (uI.alloc (.cells #[.int .u64 0, .int .u64 0, .int .u64 0, .int .u64 0] 69))) := (iU.out).trans ((aA _ _).mono (iU.out).size)
         have gx : wb.heap.size ≤ uI.heap.size := (iU.out).size
         refine hK.out _ _ (fun _ => aC.out _ pY.out) (fun hHd => ?_)
         have hHd := hHd (by decide)
         clear hK K
         try simp only [Act.put, g1, g2, g3]
         refine aG (i := 7) (by kernel_rfl) rfl (fun K hK => ?_)
         go_simp
         go_at_call 111
         refine (yw _ _).mono ?_
         rintro e wx8 ⟨rfl, hb⟩
         have jS := Lib.hid ((pY.out).trans (hb.mono (pY.out).size))
         have N8 := Lib.hid (UK.out.below hb)
         clear hb
         go_wp2_with fail
         refine hK.out _ _ (fun _ => aC.out _ jS.out) (fun hHd => ?_)
         have hHd := hHd (by decide)
         clear hK K
         try simp only [Act.put, g1, g2, g3]
         refine aG (i := 9) (by kernel_rfl) rfl (fun K hK => ?_)
         go_simp
         go_at_call 133
         refine (mJ _ _).mono ?_
         rintro e wx9 ⟨rfl, hb⟩
         have wZ := Lib.hid ((jS.out).trans (hb.mono (jS.out).size))
         have mx9 := Lib.hid (N8.out.below hb)
         clear hb
         go_wp2_with fail
         refine hK.out _ _ (fun _ => aC.out _ wZ.out) (fun hHd => ?_)
         have hHd := hHd (by decide)
         clear hK K
         try simp only [Act.put, g1, g2, g3]
         have mz := Lib.hid (mx9.out.gV (fJ Pd I A F))
         have z0 := mx9.out.c0
         have fz0 := mx9.out.frozen 0
         have z1 := mx9.out.c1
         have gz := mx9.out.frozen 1
         have z2 := mx9.out.c2
         have gB := mx9.out.frozen 2
         have z3 := mx9.out.c3
         have fz3 := mx9.out.frozen 3
         have Kz := Lib.hid (wZ.out)
         clear hHd
         refine aG (i := 11) (by kernel_rfl) rfl (fun K hK => ?_)
         go_simp
         refine hK.out _ _ (fun h => absurd h (by decide)) (fun _ => ?_)
         clear hK K
         try simp only [Act.put, g1, g2, g3]
         refine dA (by kernel_rfl) ?_ _
         first | exact ⟨_, _, _, _, _, _, _, _, _, _, _, _, _, _, _, _, _, _, _, _, _, _, _, _, _, _, _, _, _, _, _, _, _, _, _, _, _, _, _, _, _, _, _, _, _, _, _, _, _, ⟨gx, NY Kz.out gx, dP _ _ rfl⟩, rfl⟩ | exact ⟨_, _, _, _, _, _, _, _, _, _, _, _, _, _, _, _, _, _, _, _, _, _, _, _, _, _, _, _, _, _, _, _, _, _, _, _, _, _, _, _, _, _, _, _, _, _, _, _, _, ⟨gx, (dw (S := fun k => wb.heap.size ≤ k) (Only.of_below Kz.out) gx _ _ _ _ 0).below (Nat.le_refl _) (fun k h => h), mz.out⟩, rfl⟩
     · skip
       go_simp
       have UL : Hid (aH (wb.drew.alloc (.cells #[.int .u64 0, .int .u64 0, .int .u64 0, .int .u64 0] 69)) wb.heap.size (fun _ => false)) := by rw [jP]; exact dP _ _ rfl
       have lX : Hid (Below wb.heap.size wb (wb.drew.alloc (.cells #[.int .u64 0, .int .u64 0, .int .u64 0, .int .u64 0] 69))) := (Kd.out).trans ((aA _ _).mono (Kd.out).size)
       have gx : wb.heap.size ≤ wb.heap.size := (Kd.out).size
       refine hK.out _ _ (fun _ => aC.out _ lX.out) (fun hHd => ?_)
       have hHd := hHd (by decide)
       clear hK K
       try simp only [Act.put, g1, g2, g3]
       refine aG (i := 5) (by kernel_rfl) rfl (fun K hK => ?_)
       go_simp
       go_at_call 156
       refine (UE (eU.out _ (O1.out.trans (Only.of_below (lX.out)))).1 (eU.out _ (O1.out.trans (Only.of_below (lX.out)))).2.back DF.out hn).mono ?_
       rintro e ag8 ⟨rfl, hb⟩
       have qh := Lib.hid ((lX.out).trans (hb.mono (lX.out).size))
       have UM := Lib.hid (UL.out.below hb)
       clear hb
       go_wp2_with fail
       refine hK.out _ _ (fun _ => aC.out _ qh.out) (fun hHd => ?_)
       have hHd := hHd (by decide)
       clear hK K
       try simp only [Act.put, g1, g2, g3]
       refine aG (i := 7) (by kernel_rfl) rfl (fun K hK => ?_)
       go_simp
       go_at_call 111
       refine (yw _ _).mono ?_
       rintro e ag9 ⟨rfl, hb⟩
       have jT := Lib.hid ((qh.out).trans (hb.mono (qh.out).size))
       have Oa := Lib.hid (UM.out.below hb)
       clear hb
       go_wp2_with fail
       refine hK.out _ _ (fun _ => aC.out _ jT.out) (fun hHd => ?_)
       have hHd := hHd (by decide)
       clear hK K
       try simp only [Act.put, g1, g2, g3]
       refine aG (i := 9) (by kernel_rfl) rfl (fun K hK => ?_)
       go_simp
       go_at_call 133
       refine (mJ _ _).mono ?_
       rintro e aa8 ⟨rfl, hb⟩
       have xg := Lib.hid ((jT.out).trans (hb.mono (jT.out).size))
       have kY := Lib.hid (Oa.out.below hb)
       clear hb
       go_wp2_with fail
       refine hK.out _ _ (fun _ => aC.out _ xg.out) (fun hHd => ?_)
       have hHd := hHd (by decide)
       clear hK K
       try simp only [Act.put, g1, g2, g3]
       have mz := Lib.hid (kY.out.gV (fJ Pd I A F))
       have z0 := kY.out.c0
       have fz0 := kY.out.frozen 0
       have z1 := kY.out.c1
       have gz := kY.out.frozen 1
       have z2 := kY.out.c2
       have gB := kY.out.frozen 2
       have z3 := kY.out.c3
       have fz3 := kY.out.frozen 3
       have Kz := Lib.hid (xg.out)
       clear hHd
       refine aG (i := 11) (by kernel_rfl) rfl (fun K hK => ?_)
       go_simp
       refine hK.out _ _ (fun h => absurd h (by decide)) (fun _ => ?_)
       clear hK K
       try simp only [Act.put, g1, g2, g3]
       refine dA (by kernel_rfl) ?_ _
       first | exact ⟨_, _, _, _, _, _, _, _, _, _, _, _, _, _, _, _, _, _, _, _, _, _, _, _, _, _, _, _, _, _, _, _, _, _, _, _, _, _, _, _, _, _, _, _, _, _, _, _, _, ⟨gx, NY Kz.out gx, dP _ _ rfl⟩, rfl⟩ | exact ⟨_, _, _, _, _, _, _, _, _, _, _, _, _, _, _, _, _, _, _, _, _, _, _, _, _, _, _, _, _, _, _, _, _, _, _, _, _, _, _, _, _, _, _, _, _, _, _, _, _, ⟨gx, (dw (S := fun k => wb.heap.size ≤ k) (Only.of_below Kz.out) gx _ _ _ _ 0).below (Nat.le_refl _) (fun k h => h), mz.out⟩, rfl⟩
    case ag7 =>
     rintro a' wx ⟨gN, u12, u15, u16, iT, jJ, kU, u20, u21, u22, u23, u24, u25, u26, u27, u28, u29, u30, u31, u32, u33, u34, u35, u36, u37, u38, pM, u40, pO, u42, pR, u44, u45, u46, pU, u48, u49, pV, u51, pW, u53, mO, u55, mP, mQ, u58, u59, u60, u61, ⟨hgN, Bx, HN⟩, rfl⟩
     clear AV
     have wX := Lib.hid (Gz.out.below Bx.out)
     have HF3 := Lib.hid (HF2.out.below Bx.out)
     have HI3 := Lib.hid (HI2.out.below Bx.out)
     have AY := Lib.hid (dh (dh UJ.out Kb.out) Bx.out)
     have UN := Lib.hid (bR2.out.below Bx.out)
     have aa9 : Hid (fQ wx w1.heap.size ds) := aa7.out.only (S := fun _ => False) (Only.of_below Bx.out) fun _ h => h.elim
     have O3 : Hid (Only (fun k => w.heap.size ≤ k) w wx) := O1.out.trans (Only.of_below Bx.out)
     have O4 : Hid (Only (fun k => k = w.heap.size + 1 + 1 + 1 + 1 ∨ w.heap.size + 1 + 1 + 1 + 1 + 1 ≤ k) w1 wx) := O2.out.trans (Only.of_below Bx.out)
     have yG : Hid (wb.heap.size ≤ wx.heap.size) := Bx.out.size
     have aba : Hid (gF < wb.heap.size) := HF2.out.lt
     have hi0 : (0 : Int) ≤ (i : Int) := by omega
     have hi2 : (i : Int) < 2 := by omega
     have bM : Hid (∀ W', Below wx.heap.size wx W' → W'.cell? ⟨w.heap.size, 0, none⟩ = some (.pointer (some ⟨b, 0, none⟩)) ∧ W'.cell? ⟨gN, 0, none⟩ = some (.int .u64 (aj (fJ Pd I A F) 0)) ∧ W'.cell? ⟨gN, 1, none⟩ = some (.int .u64 (aj (fJ Pd I A F) 1)) ∧ W'.cell? ⟨gN, 2, none⟩ = some (.int .u64 (aj (fJ Pd I A F) 2)) ∧ W'.cell? ⟨gN, 3, none⟩ = some (.int .u64 (aj (fJ Pd I A F) 3)) ∧ W'.cell? ⟨b, i * 4, none⟩ = some (.int .u64 (aj (Ow i) 0)) ∧ W'.cell? ⟨b, i * 4 + 1, none⟩ = some (.int .u64 (aj (Ow i) 1)) ∧ W'.cell? ⟨b, i * 4 + 2, none⟩ = some (.int .u64 (aj (Ow i) 2)) ∧ W'.cell? ⟨b, i * 4 + 3, none⟩ = some (.int .u64 (aj (Ow i) 3))) := fun W' hb => by
      have m1 := HN.out.below hb
      have m4 := dh AY.out hb
      have m5 := (eU.out _ (O3.out.trans (Only.of_below hb))).2.own i hi
      exact ⟨m4.cell, m1.c0, m1.c1, m1.c2, m1.c3, m5 0 (by omega), m5 1 (by omega), m5 2 (by omega), m5 3 (by omega)⟩
     have Ke : Hid (Below wx.heap.size wx wx.drew) := (Below.refl _ _).drew
     clear HM HF UJ NV jI DK Gz HF2 HI2 bR2 aa7 aC HC Kd
     go_wp2_with fail
     refine wp_cut (fun a' wy => ∃ u12 u15 u16 iT jJ kU u20 u21 u22 u23 u24 u25 u26 u27 u28 u29 u30 u31 u32 u33 u34 u35 u36 u37 u38 pM u40 pO u42 pR u44 u45 u46 pU u48 u49 pV u51 pW u53 mO u55 mP mQ u58 u59 u60 u61, (Hid (aH wy gF (dR (fJ Pd I A F) (Ow i))) ∧ Hid (Only (fun k => k = gF ∨ wx.heap.size ≤ k) wx wy)) ∧ a' = { tmps := #[.pointer (some ⟨b, 0, none⟩), .int .i64 i, aW I, aW G, .pointer (some ⟨w.heap.size, 0, none⟩), undef, .pointer (some ⟨w.heap.size + 1, 0, none⟩), .pointer (some ⟨w.heap.size + 1 + 1, 0, none⟩), .pointer (some ⟨w.heap.size + 1 + 1 + 1, 0, none⟩), .pointer (some ⟨w.heap.size + 1 + 1 + 1 + 1, 0, none⟩), .pointer (some ⟨gF, 0, none⟩), .pointer (some ⟨gN, 0, none⟩), u12, .agg #[.int .u64 (aj G 0), .int .u64 (aj G 1), .int .u64 (aj G 2), .int .u64 (aj G 3)], .agg #[.int .u64 (aj G 0), .int .u64 (aj G 1), .int .u64 (aj G 2), .int .u64 (aj G 3)], u15, u16, iT, jJ, kU, u20, u21, u22, u23, u24, u25, u26, u27, u28, u29, u30, u31, u32, u33, u34, u35, u36, u37, u38, pM, u40, pO, u42, pR, u44, u45, u46, pU, u48, u49, pV, u51, pW, u53, mO, u55, mP, mQ, u58, u59, u60, u61, undef], defers := ds }) ?UO ?UQ
     case UO =>
      refine jB (S := (fun W' => W'.cell? ⟨w.heap.size, 0, none⟩ = some (.pointer (some ⟨b, 0, none⟩)) ∧ W'.cell? ⟨gN, 0, none⟩ = some (.int .u64 (aj (fJ Pd I A F) 0)) ∧ W'.cell? ⟨gN, 1, none⟩ = some (.int .u64 (aj (fJ Pd I A F) 1)) ∧ W'.cell? ⟨gN, 2, none⟩ = some (.int .u64 (aj (fJ Pd I A F) 2)) ∧ W'.cell? ⟨gN, 3, none⟩ = some (.int .u64 (aj (fJ Pd I A F) 3)) ∧ W'.cell? ⟨b, i * 4, none⟩ = some (.int .u64 (aj (Ow i) 0)) ∧ W'.cell? ⟨b, i * 4 + 1, none⟩ = some (.int .u64 (aj (Ow i) 1)) ∧ W'.cell? ⟨b, i * 4 + 2, none⟩ = some (.int .u64 (aj (Ow i) 2)) ∧ W'.cell? ⟨b, i * 4 + 3, none⟩ = some (.int .u64 (aj (Ow i) 3)))) (m := 8) (by kernel_rfl) (bM.out _ Ke.out) (fun hHd => ?_)
      refine aB (i := 0) (v := ?AZ) rfl (by kernel_rfl) (by decide) (by kernel_rfl) (by kernel_rfl) (by kernel_rfl) (fun _ _ _ h => h) (Or.inl ⟨by rfl, ?mW⟩) (by assumption) ?_
      case mW => (intro w hSw; (try dsimp only at hSw); go_simp; first | done | with_reducible rfl)
      try simp only [Act.put, g1, g2, g3]
      refine aB (i := 1) (v := ?Bg) rfl (by kernel_rfl) (by decide) (by kernel_rfl) (by kernel_rfl) (by kernel_rfl) (fun _ _ _ h => h) (Or.inl ⟨by rfl, ?mX⟩) (by assumption) ?_
      case mX => (intro w hSw; (try dsimp only at hSw); go_simp; first | done | with_reducible rfl)
      try simp only [Act.put, g1, g2, g3]
      refine aB (i := 2) (v := ?Bj) rfl (by kernel_rfl) (by decide) (by kernel_rfl) (by kernel_rfl) (by kernel_rfl) (fun _ _ _ h => h) (Or.inl ⟨by rfl, ?mY⟩) (by assumption) ?_
      case mY => (intro w hSw; (try dsimp only at hSw); go_simp; first | done | with_reducible rfl)
      try simp only [Act.put, g1, g2, g3]
      refine aB (i := 3) (v := ?Bo) rfl (by kernel_rfl) (by decide) (by kernel_rfl) (by kernel_rfl) (by kernel_rfl) (fun _ _ _ h => h) (Or.inl ⟨by rfl, ?mZ⟩) (by assumption) ?_
      case mZ => (intro w hSw; (try dsimp only at hSw); go_simp; first | done | with_reducible rfl)
      try simp only [Act.put, g1, g2, g3]
      refine aB (i := 4) (v := ?Bq) rfl (by kernel_rfl) (by decide) (by kernel_rfl) (by kernel_rfl) (by kernel_rfl) (fun _ _ _ h => h) (Or.inl ⟨by rfl, ?ng⟩) (by assumption) ?_
      case ng => (intro w hSw; (try dsimp only at hSw); go_simp; first | done | with_reducible rfl)
      try simp only [Act.put, g1, g2, g3]
      refine aB (i := 5) (v := ?BA) rfl (by kernel_rfl) (by decide) (by kernel_rfl) (by kernel_rfl) (by kernel_rfl) (fun _ _ _ h => h) (Or.inl ⟨by rfl, ?ni⟩) (by assumption) ?_
      case ni => (intro w hSw; (try dsimp only at hSw); go_simp; first | done | with_reducible rfl)
      try simp only [Act.put, g1, g2, g3]
      refine aB (i := 6) (v := ?BD) rfl (by kernel_rfl) (by decide) (by kernel_rfl) (by kernel_rfl) (by kernel_rfl) (fun _ _ _ h => h) (Or.inl ⟨by rfl, ?ny⟩) (by assumption) ?_
      case ny => (intro w hSw; (try dsimp only at hSw); go_simp; first | done | with_reducible rfl)
      try simp only [Act.put, g1, g2, g3]
      refine aG (i := 7) (by kernel_rfl) rfl (fun K hK => ?_)
      go_simp
      go_at_call 111
      refine (yw _ _).mono ?_
      rintro e wc ⟨rfl, hb⟩
      have Kc := Lib.hid (Ke.out.trans (hb.mono Ke.out.size))
      clear hb
      go_wp2_with fail
      refine hK.out _ _ (fun _ => bM.out _ Kc.out) (fun hHd => ?_)
      have hHd := hHd (by decide)
      clear hK K
      try simp only [Act.put, g1, g2, g3]
      have mA := HF3.out.below Kc.out
      have z0 := mA.c0
      have fz0 := mA.frozen 0
      have z1 := mA.c1
      have gz := mA.frozen 1
      have z2 := mA.c2
      have gB := mA.frozen 2
      have z3 := mA.c3
      have fz3 := mA.frozen 3
      have mq := Lib.hid (mA.gV (dR (fJ Pd I A F) (Ow i)))
      clear hHd mA
      refine aG (i := 8) (by kernel_rfl) rfl (fun K hK => ?_)
      go_simp
      refine hK.out _ _ (fun h => absurd h (by decide)) (fun _ => ?_)
      clear hK K
      try simp only [Act.put, g1, g2, g3]
      refine dA (by kernel_rfl) ?_ _
      exact ⟨_, _, _, _, _, _, _, _, _, _, _, _, _, _, _, _, _, _, _, _, _, _, _, _, _, _, _, _, _, _, _, _, _, _, _, _, _, _, _, _, _, _, _, _, _, _, _, _, ⟨mq.out, dw (S := fun k => k = gF ∨ wx.heap.size ≤ k) (Only.of_below Kc.out |>.mono fun k hk => .inr hk) (.inl rfl) _ _ _ _ 0⟩, rfl⟩
     case UQ =>
     rintro a' wy ⟨u12, u15, u16, iT, jJ, kU, u20, u21, u22, u23, u24, u25, u26, u27, u28, u29, u30, u31, u32, u33, u34, u35, u36, u37, u38, pM, u40, pO, u42, pR, u44, u45, u46, pU, u48, u49, pV, u51, pW, u53, mO, u55, mP, mQ, u58, u59, u60, u61, ⟨GI, Oy⟩, rfl⟩
     clear bM Ke
     have AP := Lib.hid (HN.out.only Oy.out (by have := HN.out.lt; have := aba.out; omega))
     have sD := Lib.hid (wX.out.only Oy.out (by have := wX.out.lt; omega))
     have HI4 := Lib.hid (HI3.out.only Oy.out (by have := HI3.out.lt; omega))
     have BF := Lib.hid (gK AY.out Oy.out (by have := AY.out.lt; omega))
     have HSy : Hid (wx.heap.size ≤ wy.heap.size) := Oy.out.size
     have O5 : Hid (Only (fun k => w.heap.size ≤ k) w wy) := O3.out.trans (Oy.out.mono fun k hk => by have := aba.out; have := yG.out; omega)
     have O6 : Hid (Only (fun k => k = w.heap.size + 1 + 1 + 1 + 1 ∨ w.heap.size + 1 + 1 + 1 + 1 + 1 ≤ k) w1 wy) := O4.out.trans (Oy.out.mono fun k hk => by have := yG.out; have := DI.out; omega)
     have Ob := Lib.hid (UN.out.only Oy.out (by have := UN.out.lt; omega))
     have abb : Hid (fQ wy w1.heap.size ds) := aa9.out.only Oy.out fun D hD hDl => by
      rcases hD with hD | hD
      · rw [hD]; exact DJ HF3.out rfl
      · omega
     clear HF3
     have n0 := AP.out.c0
     have n1 := AP.out.c1
     have n2 := AP.out.c2
     have n3 := AP.out.c3
     have f0 := GI.out.c0
     have f1 := GI.out.c1
     have f2 := GI.out.c2
     have f3 := GI.out.c3
     clear HN wX HI3 AY UN aa9
     obtain ⟨J, hJ⟩ : ∃ J, aQ (fJ Pd I A F) (dR (fJ Pd I A F) (Ow i)) = J := ⟨_, rfl⟩
     have HJ := Lib.hid hJ
     clear hJ
     go_wp2_with fail
     refine (aaU (K := J) HJ.out).mono ?_
     rintro e wz ⟨rfl, hb⟩
     have HN5 := Lib.hid (AP.out.below hb)
     have GK := Lib.hid (GI.out.below hb)
     have Bz := Lib.hid hb
     clear hb n0 n1 n2 n3 f0 f1 f2 f3 AP GI
     go_wp2_with fail
     refine (Gn _ J).mono ?_
     rintro e w2 ⟨rfl, hw2⟩
     have B2 : Hid (Below wz.heap.size wz w2) := by rw [hw2]; exact aA _ _
     have bJ : Hid (aH w2 wz.heap.size J) := by rw [hw2]; exact aH.new _ _
     have HSz : Hid (wy.heap.size ≤ wz.heap.size) := Bz.out.size
     have HS2 : Hid (w2.heap.size = wz.heap.size + 1) := by rw [hw2]; simp [Hid]
     clear hw2
     have Bw : Hid (Below wy.heap.size wy w2) := Bz.out.trans (B2.out.mono HSz.out)
     have HF6 := Lib.hid (GK.out.below B2.out)
     have JB := Lib.hid (sD.out.below Bw.out)
     have EX := Lib.hid (HI4.out.below Bw.out)
     have GL := Lib.hid (dh BF.out Bw.out)
     have bR6 := Lib.hid (Ob.out.below Bw.out)
     have Oc : Hid (fQ w2 w1.heap.size ds) := abb.out.only (S := fun _ => False) (Only.of_below Bw.out) fun _ h => h.elim
     have O7 : Hid (Only (fun k => w.heap.size ≤ k) w w2) := O5.out.trans (Only.of_below Bw.out)
     have O8 : Hid (Only (fun k => k = w.heap.size + 1 + 1 + 1 + 1 ∨ w.heap.size + 1 + 1 + 1 + 1 + 1 ≤ k) w1 w2) := O6.out.trans (Only.of_below Bw.out)
     have T2 := Lib.hid (eU.out _ O7.out).1
     have T0 := Lib.hid (eU.out _ (Only.refl _ _)).1.lt
     have kP : Hid (∀ x, J x = true → x < n) := fun x hx => by
      have h1 := hx
      rw [← HJ.out] at h1
      unfold aQ fJ aQ dR at h1
      simp only [Bool.and_eq_true] at h1
      exact HI.out x h1.1.1.2
     clear GK sD HI4 BF Ob abb HN5 O3 O5 O1 O2 O4 O6 yG DI HSy
     go_wp2_with fail
     refine Gx (Bs := wz.heap.size) (I := J) rfl T2.out bJ.out rfl (fun k => k = gF)
      (fun k hk => by
       have h1 := HF6.out.lt
       have h2 := T0.out
       omega)
      (fun pre W => aH W gF (lV (fJ Pd I A F) (Ow i) (pK E I A) pre)) (fun _ _ _ => False)
      (fun pre A A' h ho => h.only ho (by have h1 := HF6.out.lt; omega)) (fun _ _ _ _ h _ => h)
      (by rw [ag2]; exact HF6.out) ?act ?assign ?body ?done ?stop
     case assign =>
      intro l x W K hK
      dsimp only [encI]
      gi_wp2
      exact hK
     case body =>
      intro l pre x W hR hO
      obtain ⟨v, hv⟩ : ∃ v : Nat, v = x.1 := ⟨_, rfl⟩
      have hvn : v < n := by rw [hv]; exact kP.out _ x.2.2
      have hv0 : (0 : Int) ≤ (v : Int) := by omega
      have hv1 : (v : Int) < (n : Int) := by omega
      have HY : Hid (pK E I A v = true → lV (fJ Pd I A F) (Ow i) (pK E I A) (pre ++ [x]) = aO (lV (fJ Pd I A F) (Ow i) (pK E I A) pre) (aS v)) := fun h => by rw [hv] at h ⊢; exact ag3 h
      have HZ : Hid (pK E I A v = false → lV (fJ Pd I A F) (Ow i) (pK E I A) (pre ++ [x]) = lV (fJ Pd I A F) (Ow i) (pK E I A) pre) := fun h => by rw [hv] at h; exact ag4 h
      rw [← hv]
      obtain ⟨T, GN⟩ : ∃ T, lV (fJ Pd I A F) (Ow i) (pK E I A) pre = T := ⟨_, rfl⟩
      obtain ⟨T', UR⟩ : ∃ T', lV (fJ Pd I A F) (Ow i) (pK E I A) (pre ++ [x]) = T' := ⟨_, rfl⟩
      rw [GN] at hR HY HZ
      rw [UR] at HY HZ
      have Oi := Lib.hid UR
      clear GN UR hv
      have hs2 := HS2.out
      have hsz := HSz.out
      have hsW := hO.size
      have HR := Lib.hid hR
      have BG := Lib.hid hO
      have oJ := Lib.hid (gK GL.out hO (by have := GL.out.lt; omega))
      have HIW := Lib.hid (EX.out.only hO (by have := EX.out.lt; omega))
      have JC := Lib.hid (JB.out.only hO (by have := JB.out.lt; omega))
      have OW : Hid (Only (fun k => w.heap.size ≤ k) w W) := O7.out.trans (hO.mono fun k hk => by have := O7.out.size; omega)
      have aC : Hid (∀ W', Below W.heap.size W W' → W'.cell? ⟨w.heap.size, 0, none⟩ = some (.pointer (some ⟨b, 0, none⟩)) ∧ W'.cell? ⟨b, 172, none⟩ = some (.slice (some ⟨nb, 0, none⟩) n n) ∧ W'.cell? ⟨nb, v * 4, none⟩ = some (.int .u64 (aj (E v) 0)) ∧ W'.cell? ⟨nb, v * 4 + 1, none⟩ = some (.int .u64 (aj (E v) 1)) ∧ W'.cell? ⟨nb, v * 4 + 2, none⟩ = some (.int .u64 (aj (E v) 2)) ∧ W'.cell? ⟨nb, v * 4 + 3, none⟩ = some (.int .u64 (aj (E v) 3)) ∧ W'.cell? ⟨w.heap.size + 1, 0, none⟩ = some (.int .u64 (aj I 0)) ∧ W'.cell? ⟨w.heap.size + 1, 1, none⟩ = some (.int .u64 (aj I 1)) ∧ W'.cell? ⟨w.heap.size + 1, 2, none⟩ = some (.int .u64 (aj I 2)) ∧ W'.cell? ⟨w.heap.size + 1, 3, none⟩ = some (.int .u64 (aj I 3)) ∧ W'.cell? ⟨w.heap.size + 1 + 1 + 1 + 1, 0, none⟩ = some (.int .u64 (aj A 0)) ∧ W'.cell? ⟨w.heap.size + 1 + 1 + 1 + 1, 1, none⟩ = some (.int .u64 (aj A 1)) ∧ W'.cell? ⟨w.heap.size + 1 + 1 + 1 + 1, 2, none⟩ = some (.int .u64 (aj A 2)) ∧ W'.cell? ⟨w.heap.size + 1 + 1 + 1 + 1, 3, none⟩ = some (.int .u64 (aj A 3))) := fun W' hb => by
       have m1 := HIW.out.below hb
       have m2 := JC.out.below hb
       have m4 := dh oJ.out hb
       have m5 := (eU.out _ (OW.out.trans (Only.of_below hb))).2.next
       have m6 := (eU.out _ (OW.out.trans (Only.of_below hb))).2.succ v hvn
       have m60 := m6 0 (by omega)
       have m61 := m6 1 (by omega)
       have m62 := m6 2 (by omega)
       have m63 := m6 3 (by omega)
       rw [Nat.zero_add] at m60 m61 m62 m63
       exact ⟨m4.cell, m5, m60, m61, m62, m63, m1.c0, m1.c1, m1.c2, m1.c3, m2.c0, m2.c1, m2.c2, m2.c3⟩
      have Kd : Hid (Below W.heap.size W W.drew) := (Below.refl _ _).drew
      clear hR hO hs2 hsz hsW
      gi_wp2
      cases hsh : pK E I A v with
      | true =>
        replace HY := Lib.hid (HY.out hsh)
        have HX := Lib.hid (fun w => rQ (w := w) (aQ (dR (E v) I) A) hsh)
        clear hsh HZ
        refine uy (S := (fun W' => W'.cell? ⟨w.heap.size, 0, none⟩ = some (.pointer (some ⟨b, 0, none⟩)) ∧ W'.cell? ⟨b, 172, none⟩ = some (.slice (some ⟨nb, 0, none⟩) n n) ∧ W'.cell? ⟨nb, v * 4, none⟩ = some (.int .u64 (aj (E v) 0)) ∧ W'.cell? ⟨nb, v * 4 + 1, none⟩ = some (.int .u64 (aj (E v) 1)) ∧ W'.cell? ⟨nb, v * 4 + 2, none⟩ = some (.int .u64 (aj (E v) 2)) ∧ W'.cell? ⟨nb, v * 4 + 3, none⟩ = some (.int .u64 (aj (E v) 3)) ∧ W'.cell? ⟨w.heap.size + 1, 0, none⟩ = some (.int .u64 (aj I 0)) ∧ W'.cell? ⟨w.heap.size + 1, 1, none⟩ = some (.int .u64 (aj I 1)) ∧ W'.cell? ⟨w.heap.size + 1, 2, none⟩ = some (.int .u64 (aj I 2)) ∧ W'.cell? ⟨w.heap.size + 1, 3, none⟩ = some (.int .u64 (aj I 3)) ∧ W'.cell? ⟨w.heap.size + 1 + 1 + 1 + 1, 0, none⟩ = some (.int .u64 (aj A 0)) ∧ W'.cell? ⟨w.heap.size + 1 + 1 + 1 + 1, 1, none⟩ = some (.int .u64 (aj A 1)) ∧ W'.cell? ⟨w.heap.size + 1 + 1 + 1 + 1, 2, none⟩ = some (.int .u64 (aj A 2)) ∧ W'.cell? ⟨w.heap.size + 1 + 1 + 1 + 1, 3, none⟩ = some (.int .u64 (aj A 3)))) (m := 12) (by kernel_rfl) (by kernel_rfl) (aC.out _ Kd.out) (fun hHd => ?_)
        refine aB (i := 0) (v := ?GR) rfl (by kernel_rfl) (by decide) (by kernel_rfl) (by kernel_rfl) (by kernel_rfl) (fun _ _ _ h => h) (Or.inl ⟨by rfl, ?qX⟩) (by assumption) ?_
        case qX => (intro w hSw; (try dsimp only at hSw); go_simp; first | done | with_reducible rfl)
        try simp only [Act.put, g1, g2, g3]
        refine aB (i := 1) (v := ?JD) rfl (by kernel_rfl) (by decide) (by kernel_rfl) (by kernel_rfl) (by kernel_rfl) (fun _ _ _ h => h) (Or.inl ⟨by rfl, ?hm18⟩) (by assumption) ?_
        case hm18 => (intro w hSw; (try dsimp only at hSw); go_simp; first | done | with_reducible rfl)
        try simp only [Act.put, g1, g2, g3]
        refine aB (i := 2) (v := ?JE) rfl (by kernel_rfl) (by decide) (by kernel_rfl) (by kernel_rfl) (by kernel_rfl) (fun _ _ _ h => h) (Or.inl ⟨by rfl, ?uK⟩) (by assumption) ?_
        case uK => (intro w hSw; (try dsimp only at hSw); go_simp; first | done | with_reducible rfl)
        try simp only [Act.put, g1, g2, g3]
        refine aB (i := 3) (v := ?JF) rfl (by kernel_rfl) (by decide) (by kernel_rfl) (by kernel_rfl) (by kernel_rfl) (fun _ _ _ h => h) (Or.inl ⟨by rfl, ?uM⟩) (by assumption) ?_
        case uM => (intro w hSw; (try dsimp only at hSw); go_simp; first | done | with_reducible rfl)
        try simp only [Act.put, g1, g2, g3]
        refine aB (i := 4) (v := ?Oj) rfl (by kernel_rfl) (by decide) (by kernel_rfl) (by kernel_rfl) (by kernel_rfl) (fun _ _ _ h => h) (Or.inl ⟨by rfl, ?yH⟩) (by assumption) ?_
        case yH => (intro w hSw; (try dsimp only at hSw); go_simp; first | done | with_reducible rfl)
        try simp only [Act.put, g1, g2, g3]
        refine aB (i := 5) (v := ?Ol) rfl (by kernel_rfl) (by decide) (by kernel_rfl) (by kernel_rfl) (by kernel_rfl) (fun _ _ _ h => h) (Or.inl ⟨by rfl, ?yI⟩) (by assumption) ?_
        case yI => (intro w hSw; (try dsimp only at hSw); go_simp; first | done | with_reducible rfl)
        try simp only [Act.put, g1, g2, g3]
        refine aB (i := 6) (v := ?Om) rfl (by kernel_rfl) (by decide) (by kernel_rfl) (by kernel_rfl) (by kernel_rfl) (fun _ _ _ h => h) (Or.inl ⟨by rfl, ?yJ⟩) (by assumption) ?_
        case yJ => (intro w hSw; (try dsimp only at hSw); go_simp; first | done | with_reducible rfl)
        try simp only [Act.put, g1, g2, g3]
        refine aB (i := 7) (v := ?Oo) rfl (by kernel_rfl) (by decide) (by kernel_rfl) (by kernel_rfl) (by kernel_rfl) (fun _ _ _ h => h) (Or.inl ⟨by rfl, ?yK⟩) (by assumption) ?_
        case yK => (intro w hSw; (try dsimp only at hSw); go_simp; first | done | with_reducible rfl)
        try simp only [Act.put, g1, g2, g3]
        refine aB (i := 9) (v := ?Oq) rfl (by kernel_rfl) (by decide) (by kernel_rfl) (by kernel_rfl) (by kernel_rfl) (fun _ _ _ h => h) (Or.inl ⟨by rfl, ?yL⟩) (by assumption) ?_
        case yL => (intro w hSw; (try dsimp only at hSw); go_simp; first | done | with_reducible rfl)
        try simp only [Act.put, g1, g2, g3]
        refine aG (i := 8) (by kernel_rfl) rfl (fun K hK => ?_)
        go_simp
        go_at_call 111
        refine (yw _ _).mono ?_
        rintro e wc ⟨rfl, hb⟩
        have Kc := Lib.hid (Kd.out.trans (hb.mono Kd.out.size))
        clear hb
        go_wp2_with fail
        refine hK.out _ _ (fun _ => aC.out _ Kc.out) (fun hHd => ?_)
        have hHd := hHd (by decide)
        clear hK K
        try simp only [Act.put, g1, g2, g3]
        refine aG (i := 10) (by kernel_rfl) rfl (fun K hK => ?_)
        go_simp
        go_at_call 133
        refine (mJ _ _).mono ?_
        rintro e we ⟨rfl, hb⟩
        have Ke := Lib.hid (Kc.out.trans (hb.mono Kc.out.size))
        clear hb
        go_wp2_with fail
        refine hK.out _ _ (fun _ => aC.out _ Ke.out) (fun hHd => ?_)
        have hHd := hHd (by decide)
        clear hK K
        try simp only [Act.put, g1, g2, g3]
        refine aG (i := 11) (by kernel_rfl) rfl (fun K hK => ?_)
        go_simp
        go_at_call 128
        refine (HX.out _).mono ?_
        rintro e wf ⟨rfl, hb⟩
        have Kf := Lib.hid (Ke.out.trans (hb.mono Ke.out.size))
        clear hb
        go_wp2_with fail
        refine hK.out _ _ (fun _ => aC.out _ Kf.out) (fun hHd => ?_)
        have hHd := hHd (by decide)
        clear hK K
        try simp only [Act.put, g1, g2, g3]
        clear hHd
        refine dA (by kernel_rfl) ?_ _
        refine uw ?_
        have Ot : Hid (∀ W', Below wf.heap.size wf W' → W'.cell? ⟨gF, 0, none⟩ = some (.int .u64 (aj T 0)) ∧ W'.cell? ⟨gF, 1, none⟩ = some (.int .u64 (aj T 1)) ∧ W'.cell? ⟨gF, 2, none⟩ = some (.int .u64 (aj T 2)) ∧ W'.cell? ⟨gF, 3, none⟩ = some (.int .u64 (aj T 3))) := fun W' hb => by
         have m1 := (HR.out.below Kf.out).below hb
         exact ⟨m1.c0, m1.c1, m1.c2, m1.c3⟩
        have Ke : Hid (Below wf.heap.size wf wf.drew) := (Below.refl _ _).drew
        have FW : v < 256 := by omega
        gi_wp2
        refine uy (S := (fun W' => W'.cell? ⟨gF, 0, none⟩ = some (.int .u64 (aj T 0)) ∧ W'.cell? ⟨gF, 1, none⟩ = some (.int .u64 (aj T 1)) ∧ W'.cell? ⟨gF, 2, none⟩ = some (.int .u64 (aj T 2)) ∧ W'.cell? ⟨gF, 3, none⟩ = some (.int .u64 (aj T 3)))) (m := 5) (by kernel_rfl) (by kernel_rfl) (Ot.out _ Ke.out) (fun hHd => ?_)
        refine aB (i := 0) (v := ?BH) rfl (by kernel_rfl) (by decide) (by kernel_rfl) (by kernel_rfl) (by kernel_rfl) (fun _ _ _ h => h) (Or.inl ⟨by rfl, ?nC⟩) (by assumption) ?_
        case nC => (intro w hSw; (try dsimp only at hSw); go_simp; first | done | with_reducible rfl)
        try simp only [Act.put, g1, g2, g3]
        refine aB (i := 1) (v := ?DL) rfl (by kernel_rfl) (by decide) (by kernel_rfl) (by kernel_rfl) (by kernel_rfl) (fun _ _ _ h => h) (Or.inl ⟨by rfl, ?nN⟩) (by assumption) ?_
        case nN => (intro w hSw; (try dsimp only at hSw); go_simp; first | done | with_reducible rfl)
        try simp only [Act.put, g1, g2, g3]
        refine aG (i := 2) (by kernel_rfl) rfl (fun K hK => ?_)
        go_simp
        have Kg : Hid (Below wf.heap.size wf (wf.alloc (.cells #[.int .i64 (v : Int)] 2)).drew) := (aA _ _).drew
        have hcell : (wf.alloc (.cells #[.int .i64 (v : Int)] 2)).drew.cell? ⟨wf.heap.size, 0, none⟩ = some (.int .i64 (v : Int)) := (Boxed.new wf _ _).cell
        refine hK.out _ _ (fun _ => Ot.out _ Kg.out) (fun hHd => ?_)
        have hHd := hHd (by decide)
        clear hK K
        try simp only [Act.put, g1, g2, g3]
        refine aG (i := 3) (by kernel_rfl) rfl (fun K hK => ?_)
        go_simp
        go_at_call 103
        refine (Jw hcell FW).mono ?_
        rintro e wk ⟨rfl, hb⟩
        have Kk := Lib.hid (Kg.out.trans (hb.mono Kg.out.size))
        clear hb
        go_wp2_with fail
        refine hK.out _ _ (fun _ => Ot.out _ Kk.out) (fun hHd => ?_)
        have hHd := hHd (by decide)
        clear hK K
        try simp only [Act.put, g1, g2, g3]
        refine aG (i := 4) (by kernel_rfl) rfl (fun K hK => ?_)
        go_simp
        go_at_call 109
        refine (yu _ _).mono ?_
        rintro e wm ⟨rfl, hb⟩
        have Km := Lib.hid (Kk.out.trans (hb.mono Kk.out.size))
        clear hb
        go_wp2_with fail
        refine hK.out _ _ (fun _ => Ot.out _ Km.out) (fun hHd => ?_)
        have hHd := hHd (by decide)
        clear hK K
        try simp only [Act.put, g1, g2, g3]
        have mA := (HR.out.below Kf.out).below Km.out
        have z0 := mA.c0
        have fz0 := mA.frozen 0
        have z1 := mA.c1
        have gz := mA.frozen 1
        have z2 := mA.c2
        have gB := mA.frozen 2
        have z3 := mA.c3
        have fz3 := mA.frozen 3
        have mq := Lib.hid (mA.gV (aO T (aS v)))
        clear hHd mA
        refine aG (i := 5) (by kernel_rfl) rfl (fun K hK => ?_)
        go_simp
        refine hK.out _ _ (fun h => absurd h (by decide)) (fun _ => ?_)
        clear hK K
        try simp only [Act.put, g1, g2, g3]
        refine dA (by kernel_rfl) ?_ _
        refine uw ?_
        refine ⟨dw (Only.of_below Kf.out |>.trans (Only.of_below Km.out) |>.mono fun k hk => hk) (.inl rfl) _ _ _ _ 0, ?_⟩
        show aH _ _ _
        rw [Oi.out, HY.out]
        exact mq.out
      | false =>
        replace HZ := Lib.hid (HZ.out hsh)
        have HX := Lib.hid (fun w => rQ (w := w) (aQ (dR (E v) I) A) hsh)
        clear hsh HY
        refine uy (S := (fun W' => W'.cell? ⟨w.heap.size, 0, none⟩ = some (.pointer (some ⟨b, 0, none⟩)) ∧ W'.cell? ⟨b, 172, none⟩ = some (.slice (some ⟨nb, 0, none⟩) n n) ∧ W'.cell? ⟨nb, v * 4, none⟩ = some (.int .u64 (aj (E v) 0)) ∧ W'.cell? ⟨nb, v * 4 + 1, none⟩ = some (.int .u64 (aj (E v) 1)) ∧ W'.cell? ⟨nb, v * 4 + 2, none⟩ = some (.int .u64 (aj (E v) 2)) ∧ W'.cell? ⟨nb, v * 4 + 3, none⟩ = some (.int .u64 (aj (E v) 3)) ∧ W'.cell? ⟨w.heap.size + 1, 0, none⟩ = some (.int .u64 (aj I 0)) ∧ W'.cell? ⟨w.heap.size + 1, 1, none⟩ = some (.int .u64 (aj I 1)) ∧ W'.cell? ⟨w.heap.size + 1, 2, none⟩ = some (.int .u64 (aj I 2)) ∧ W'.cell? ⟨w.heap.size + 1, 3, none⟩ = some (.int .u64 (aj I 3)) ∧ W'.cell? ⟨w.heap.size + 1 + 1 + 1 + 1, 0, none⟩ = some (.int .u64 (aj A 0)) ∧ W'.cell? ⟨w.heap.size + 1 + 1 + 1 + 1, 1, none⟩ = some (.int .u64 (aj A 1)) ∧ W'.cell? ⟨w.heap.size + 1 + 1 + 1 + 1, 2, none⟩ = some (.int .u64 (aj A 2)) ∧ W'.cell? ⟨w.heap.size + 1 + 1 + 1 + 1, 3, none⟩ = some (.int .u64 (aj A 3)))) (m := 12) (by kernel_rfl) (by kernel_rfl) (aC.out _ Kd.out) (fun hHd => ?_)
        refine aB (i := 0) (v := ?Ou) rfl (by kernel_rfl) (by decide) (by kernel_rfl) (by kernel_rfl) (by kernel_rfl) (fun _ _ _ h => h) (Or.inl ⟨by rfl, ?yM⟩) (by assumption) ?_
        case yM => (intro w hSw; (try dsimp only at hSw); go_simp; first | done | with_reducible rfl)
        try simp only [Act.put, g1, g2, g3]
        refine aB (i := 1) (v := ?Ov) rfl (by kernel_rfl) (by decide) (by kernel_rfl) (by kernel_rfl) (by kernel_rfl) (fun _ _ _ h => h) (Or.inl ⟨by rfl, ?yN⟩) (by assumption) ?_
        case yN => (intro w hSw; (try dsimp only at hSw); go_simp; first | done | with_reducible rfl)
        try simp only [Act.put, g1, g2, g3]
        refine aB (i := 2) (v := ?OA) rfl (by kernel_rfl) (by decide) (by kernel_rfl) (by kernel_rfl) (by kernel_rfl) (fun _ _ _ h => h) (Or.inl ⟨by rfl, ?yO⟩) (by assumption) ?_
        case yO => (intro w hSw; (try dsimp only at hSw); go_simp; first | done | with_reducible rfl)
        try simp only [Act.put, g1, g2, g3]
        refine aB (i := 3) (v := ?OD) rfl (by kernel_rfl) (by decide) (by kernel_rfl) (by kernel_rfl) (by kernel_rfl) (fun _ _ _ h => h) (Or.inl ⟨by rfl, ?yP⟩) (by assumption) ?_
        case yP => (intro w hSw; (try dsimp only at hSw); go_simp; first | done | with_reducible rfl)
        try simp only [Act.put, g1, g2, g3]
        refine aB (i := 4) (v := ?UU) rfl (by kernel_rfl) (by decide) (by kernel_rfl) (by kernel_rfl) (by kernel_rfl) (fun _ _ _ h => h) (Or.inl ⟨by rfl, ?DN⟩) (by assumption) ?_
        case DN => (intro w hSw; (try dsimp only at hSw); go_simp; first | done | with_reducible rfl)
        try simp only [Act.put, g1, g2, g3]
        refine aB (i := 5) (v := ?UW) rfl (by kernel_rfl) (by decide) (by kernel_rfl) (by kernel_rfl) (by kernel_rfl) (fun _ _ _ h => h) (Or.inl ⟨by rfl, ?DR⟩) (by assumption) ?_
        case DR => (intro w hSw; (try dsimp only at hSw); go_simp; first | done | with_reducible rfl)
        try simp only [Act.put, g1, g2, g3]
        refine aB (i := 6) (v := ?UY) rfl (by kernel_rfl) (by decide) (by kernel_rfl) (by kernel_rfl) (by kernel_rfl) (fun _ _ _ h => h) (Or.inl ⟨by rfl, ?DT⟩) (by assumption) ?_
        case DT => (intro w hSw; (try dsimp only at hSw); go_simp; first | done | with_reducible rfl)
        try simp only [Act.put, g1, g2, g3]
        refine aB (i := 7) (v := ?UZ) rfl (by kernel_rfl) (by decide) (by kernel_rfl) (by kernel_rfl) (by kernel_rfl) (fun _ _ _ h => h) (Or.inl ⟨by rfl, ?DU⟩) (by assumption) ?_
        case DU => (intro w hSw; (try dsimp only at hSw); go_simp; first | done | with_reducible rfl)
        try simp only [Act.put, g1, g2, g3]
        refine aB (i := 9) (v := ?U0) rfl (by kernel_rfl) (by decide) (by kernel_rfl) (by kernel_rfl) (by kernel_rfl) (fun _ _ _ h => h) (Or.inl ⟨by rfl, ?DV⟩) (by assumption) ?_
        case DV => (intro w hSw; (try dsimp only at hSw); go_simp; first | done | with_reducible rfl)
        try simp only [Act.put, g1, g2, g3]
        refine aG (i := 8) (by kernel_rfl) rfl (fun K hK => ?_)
        go_simp
        go_at_call 111
        refine (yw _ _).mono ?_
        rintro e wc ⟨rfl, hb⟩
        have Kc := Lib.hid (Kd.out.trans (hb.mono Kd.out.size))
        clear hb
        go_wp2_with fail
        refine hK.out _ _ (fun _ => aC.out _ Kc.out) (fun hHd => ?_)
        have hHd := hHd (by decide)
        clear hK K
        try simp only [Act.put, g1, g2, g3]
        refine aG (i := 10) (by kernel_rfl) rfl (fun K hK => ?_)
        go_simp
        go_at_call 133
        refine (mJ _ _).mono ?_
        rintro e we ⟨rfl, hb⟩
        have Ke := Lib.hid (Kc.out.trans (hb.mono Kc.out.size))
        clear hb
        go_wp2_with fail
        refine hK.out _ _ (fun _ => aC.out _ Ke.out) (fun hHd => ?_)
        have hHd := hHd (by decide)
        clear hK K
        try simp only [Act.put, g1, g2, g3]
        refine aG (i := 11) (by kernel_rfl) rfl (fun K hK => ?_)
        go_simp
        go_at_call 128
        refine (HX.out _).mono ?_
        rintro e wf ⟨rfl, hb⟩
        have Kf := Lib.hid (Ke.out.trans (hb.mono Ke.out.size))
        clear hb
        go_wp2_with fail
        refine hK.out _ _ (fun _ => aC.out _ Kf.out) (fun hHd => ?_)
        have hHd := hHd (by decide)
        clear hK K
        try simp only [Act.put, g1, g2, g3]
        clear hHd
        refine dA (by kernel_rfl) ?_ _
        refine uw ?_
        gi_wp2
        refine ⟨Only.of_below Kf.out, ?_⟩
        show aH _ _ _
        rw [Oi.out, HZ.out]
        exact HR.out.below Kf.out
     case done =>
      intro D xs W hD hxs hR hO hK
      have U6 : lV (fJ Pd I A F) (Ow i) (pK E I A) xs = AU E Pd (Ow i) I A F := by
       have := HJ.out
       subst this
       exact ag5 HI.out hn hxs
      rw [U6] at hR
      have Jy := Lib.hid (GH.out.next HG.out.rows.eu (HG.out.next hi DF.out hn))
      have Az := Lib.hid (aa4 (R := A) (F := F) (F' := AU E Pd (Ow i) I A F) H0.out (fun u hu => by
       unfold AU fJ aQ at hu
       simp only [Bool.and_eq_true, Bool.not_eq_true'] at hu
       exact hu.1.2))
      obtain ⟨N, hN⟩ : ∃ N, AU E Pd (Ow i) I A F = N := ⟨_, rfl⟩
      rw [hN] at hR Jy Az
      clear U6 hN hxs
      have HR := Lib.hid hR
      have xk := Lib.hid (JB.out.only hO (by have := JB.out.lt; omega))
      have OH : Hid (fQ W w1.heap.size ds) := Oc.out.only hO fun D' hD' hDl => by
       rcases hD' with hD' | hD'
       · rw [hD']; exact DJ HF6.out rfl
       · omega
      have U7 : Hid (fQ W w1.heap.size ({ target := .collected D, args := #[] } :: ds)) := ⟨⟨D, rfl, by have := O8.out.size; omega, hK, Oc.out.fresh fun d hd => by
       obtain ⟨E', h1, h2⟩ := Oc.out.lt d hd
       exact ⟨E', h1, by omega⟩⟩, OH.out⟩
      have O9 : Hid (Only (fun k => k = w.heap.size + 1 + 1 + 1 + 1 ∨ w.heap.size + 1 + 1 + 1 + 1 + 1 ≤ k) w1 W) := O8.out.trans (hO.mono fun k hk => by have := O8.out.size; omega)
      have TL : Hid (w1.heap.size ≤ W.heap.size) := O9.out.size
      have n0 := HR.out.c0
      have n1 := HR.out.c1
      have n2 := HR.out.c2
      have n3 := HR.out.c3
      have r0 := xk.out.c0
      have r1 := xk.out.c1
      have r2 := xk.out.c2
      have r3 := xk.out.c3
      have s0 := xk.out.lt
      clear hR hO hK hD OH Oc HF6 JB EX GL bR6
      go_wp2_with fail
      refine (yu A N).mono ?_
      rintro e wh ⟨rfl, hb⟩
      have Bh : Hid (Below W.heap.size W wh) := (aA W _).trans (hb.mono (by simp))
      have xq := Lib.hid (xk.out.below Bh.out)
      have HN7 := Lib.hid ((aH.new W N).below hb)
      have k0 := xq.out.frozen 0
      have k1 := xq.out.frozen 1
      have k2 := xq.out.frozen 2
      have k3 := xq.out.frozen 3
      have l0 := xq.out.c0
      have l1 := xq.out.c1
      have l2 := xq.out.c2
      have l3 := xq.out.c3
      clear hb n0 n1 n2 n3 r0 r1 r2 r3
      go_wp2
      go_roundg (yE (aO A N) N)
      case measure => rw [hgk]; exact Az.out
      case rel =>
       have hs9 := TL.out
       have Op : Hid (Only (fun k => k = w.heap.size + 1 + 1 + 1 + 1) wh _) := dw (S := fun k => k = w.heap.size + 1 + 1 + 1 + 1) (Only.refl _ wh) (g := w.heap.size + 1 + 1 + 1 + 1) rfl (.int .u64 (aj (aO A N) 0)) (.int .u64 (aj (aO A N) 1)) (.int .u64 (aj (aO A N) 2)) (.int .u64 (aj (aO A N) 3)) 0
       refine ⟨W.heap.size, aO A N, N, rfl, by omega, rfl, Jy.out, xq.out.gV _, HN7.out.only Op.out (by omega), (O9.out.trans (Only.of_below Bh.out)).trans (Op.out.mono fun k hk => .inl hk), (U7.out.only (S := fun _ => False) (Only.of_below Bh.out) fun _ h => h.elim).only Op.out fun D' hD' _ => ?_⟩
       rw [hD']; exact DJ xq.out rfl
     case stop => intro D c pre W _ _ h _ _; exact h.elim
end
end Go.Proofs.YtglbkbiphcgidaaDoor
