import Derived.Test.YtglbkbiphcgidaaDoorPm09
import Derived.Test.YtglbkbiphcgidaaDoorPm18
import Derived.Test.YtglbkbiphcgidaaDoorPm19
import Derived.Test.YtglbkbiphcgidaaDoorPm21
import Derived.Test.YtglbkbiphcgidaaDoorPm22
namespace Go.Proofs.YtglbkbiphcgidaaDoor
section
open Go.RowKit Go.Shelf
attribute [local go_sem] Oper.semAt_some
theorem X4 {S : Nat → Prop} {w w' : World} {g : Nat} {t : TypeId} {a b c : Value} (h : aT w g t a b c) (hk : Only S w w') (hs : ¬ S g) : aT w' g t a b c := by
 obtain ⟨cs, h1, h2⟩ := h
 exact ⟨cs, (hk.block g (Array.getElem?_eq_some_iff.1 h1).1 hs).trans h1, h2⟩
theorem X6 {w : World} {B D n c : Nat} {a : Option Addr} {zs : List Int} (h : aF w B D (.slice a n c) zs) : aV w a zs := by
 obtain ⟨a', c', e, hI, _⟩ := h.shape
 cases e
 exact hI
theorem acO {O P : List Int} {ah : List (List Int)} {who : Int} (hz : ah.length = O.length) : bK ah O P who = bC ah O P who := by
 unfold bK bC dM oG
 rw [hz]
theorem jC.congr {ah Qv : List (List Int)} {O : List Int} {n : Nat} {Ow E Pd : Nat → Nat → Bool} (h : jC ah O n Ow E Pd) (hl : Qv.length = n) (hr : iO Qv) (hm : ∀ v, v < n → ∀ x, x ∈ row ah v ↔ x ∈ row Qv v) : jC Qv O n Ow E Pd :=
 ⟨hl, hr, h.own, fun v hv x => (h.succ v hv x).trans (hm v hv x), h.back⟩
theorem aiX {O P Pk X Y : List Int} {ah : List (List Int)} {r : Bool} (hr : oH O ah P Pk = X ∧ oI O ah P Pk = Y ∧ kT O ah P Pk = r) (hk : jb O ah P Pk = true) (h : zf O ah P Pk = true) (hl : Pk.length = ah.length) : X = dJ ah O P ∧ Y = bD ah O P Pk ah.length ∧ r = true :=
 NJ hr ⟨hk, fun v hv => II.1 h v (by omega)⟩
theorem aiY {O P Pk X Y : List Int} {ah : List (List Int)} {r : Bool} (hr : oH O ah P Pk = X ∧ oI O ah P Pk = Y ∧ kT O ah P Pk = r) (h : zf O ah P Pk = false) (hl : Pk.length = ah.length) : X = [] ∧ Y = [] ∧ r = false :=
 NI hr fun hh => by
  have : zf O ah P Pk = true := II.2 fun j hj => hh.2 j (by omega)
  rw [h] at this; cases this
set_option linter.unusedSimpArgs false in
set_option maxHeartbeats 32000000 in
set_option maxRecDepth 100000 in
theorem acP {w : World} {v : Value} {O P Pk X Y : List Int} {ah : List (List Int)} {aK : Option Addr} {r : Bool} (cK : Nat) (hr : oH O ah P Pk = X ∧ oI O ah P Pk = Y ∧ kT O ah P Pk = r) (h : gX w v O ah P) (hK : aV w aK Pk) (hT : dS w) :
 Calls Tryd.prog 17 #[v, .slice aK Pk.length cK] w (Dv w X Y r) := by
 obtain ⟨i0, hi, hz0, hz1, hz2⟩ := info_parts qH
 have fP := Lib.hid h
 have iH := Lib.hid hK
 have HT := Lib.hid hT
 obtain ⟨ao, an, ap, co, cn, cp, A, C, rfl, h1, h2, h3⟩ := h
 obtain ⟨w1, hw1⟩ : ∃ y, y = (w.alloc (.cells #[.slice ao O.length co, .slice an ah.length cn, .slice ap P.length cp] 35)).alloc (.cells #[.slice none 0 0, .slice none 0 0] 30) := ⟨_, rfl⟩
 have HW1 := Lib.hid hw1
 have B1 : Hid (Below w.heap.size w w1) := by rw [hw1]; exact below2 _ _ _
 have hs1 : w1.heap.size = w.heap.size + 1 + 1 := by rw [hw1]; simp
 have cO := Lib.hid hs1
 have T1 : Hid (aT w1 w.heap.size 35 (.slice ao O.length co) (.slice an ah.length cn) (.slice ap P.length cp)) := by rw [hw1]; exact (aT.new w _ _ _ _).below (aA _ _)
 have R1 : Hid (aI w1 (w.heap.size + 1) 30 (.slice none 0 0) (.slice none 0 0)) := by
  rw [hw1]
  have h := aI.new (w.alloc (.cells #[.slice ao O.length co, .slice an ah.length cn, .slice ap P.length cp] 35)) 30 (.slice none 0 0) (.slice none 0 0)
  rw [World.size_alloc] at h
  exact h
 have tZ := Lib.hid h1
 clear hw1 h1 h2 h3 hs1 hK hT
 have c0 := T1.out.c0
 have c1 := T1.out.c1
 have c2 := T1.out.c2
 cases hk : jb O ah P Pk with
 | false =>
   have HE := Lib.hid (NI hr (by rw [hk]; simp))
   have HC := Lib.hid (acN cK hk (fP.out.below B1.out) (iH.out.below B1.out) (HT.out.below B1.out))
   clear hr hk
   go_enter Tryd.func17, Tryd.ntmps17
   go_wp2_with fail
   rw [← HW1.out]
   refine HC.out.mono ?_
   rintro e w2 ⟨rfl, hb⟩
   have B2 := Lib.hid (B1.out.trans (hb.mono B1.out.size))
   have T2 := Lib.hid (T1.out.below hb)
   have R2 := Lib.hid (R1.out.below hb)
   have X7 : w1.heap.size ≤ w2.heap.size := hb.size
   have d0 := R2.out.cell0
   have d1 := R2.out.cell1
   have g0 := R2.out.frozen 0
   have g1 := R2.out.frozen 1
   clear hb HC
   go_wp2
   exact bodyPost_ret (v := .tuple #[.agg #[.slice none 0 0, .slice none 0 0], .bool false]) (by simp [results, Tryd.results17, go_sem, d0, d1]) rfl
    ⟨_, _, by rw [HE.out.2.2], by rw [HE.out.1]; exact aF.nil _ _ _, by rw [HE.out.2.1]; exact aF.nil _ _ _, fun g hg => by simp [Value.ownBlock] at hg, (B2.out.setCell (p := ⟨w.heap.size + 1, 0, none⟩) (by simp) _).setCell (p := ⟨w.heap.size + 1, 1, none⟩) (by simp) _⟩
 | true =>
   have hon : fO O ah P Pk = true := by unfold jb at hk; rw [Bool.and_eq_true] at hk; exact hk.1
   have hpar : fZ O ah P = true := by unfold fO at hon; rw [Bool.and_eq_true] at hon; exact hon.1
   have hpk : tN ah Pk := by unfold fO at hon; rw [Bool.and_eq_true] at hon; exact tV.1 hon.2
   obtain ⟨hA, Aa, Ac⟩ := iY.1 hpar
   have hz : ah.length = O.length := hA.2.2.1
   have wV : Pk.length = O.length := by rw [hpk.1]; exact hz
   have x9 : O.length ≤ 256 := hA.2.1
   have hn1 : 0 < O.length := hA.1
   have HZ := Lib.hid hz
   have jO := Lib.hid wV
   have akJ : ah.length ≤ O.length := Nat.le_of_eq hz
   have akK : O.length ≤ ah.length := Nat.le_of_eq hz.symm
   have akL : Pk.length ≤ O.length := Nat.le_of_eq wV
   have hkl2 : O.length ≤ Pk.length := Nat.le_of_eq wV.symm
   have HP := Lib.hid hpar
   have HC := Lib.hid (acN cK hk (fP.out.below B1.out) (iH.out.below B1.out) (HT.out.below B1.out))
   cases ho : zf O ah P Pk with
   | false =>
     have HE := Lib.hid (aiY hr ho (by omega))
     have X8 := Lib.hid ho
     clear hr hk hon hpk hA Aa Ac ho hpar hz wV
     go_enter Tryd.func17, Tryd.ntmps17
     go_wp2_with fail
     rw [← HW1.out]
     refine HC.out.mono ?_
     rintro e w2 ⟨rfl, hb⟩
     have B2 := Lib.hid (B1.out.trans (hb.mono B1.out.size))
     have T2 := Lib.hid (T1.out.below hb)
     have R2 := Lib.hid (R1.out.below hb)
     have X7 : w1.heap.size ≤ w2.heap.size := hb.size
     clear hb HC c0 c1 c2
     have c0 := T2.out.c0
     have c1 := T2.out.c1
     have c2 := T2.out.c2
     go_wp2_with fail
     refine (Qs (HT.out.below B2.out) (fP.out.below B2.out) HP.out).mono ?_
     rintro e w3 ⟨rfl, hb⟩
     have B3 := Lib.hid (B2.out.trans (hb.mono B2.out.size))
     have T3 := Lib.hid (T2.out.below hb)
     have R3 := Lib.hid (R2.out.below hb)
     have aaQ : w2.heap.size ≤ w3.heap.size := hb.size
     clear hb c0 c1 c2
     go_upto_region 4 with fail
     obtain ⟨w4, hw4⟩ : ∃ y, y = w3.alloc (.cells (kZ (bK ah O P 0) (bK ah O P 1)) 71) := ⟨_, rfl⟩
     have Ei := hw4
     simp only [kZ] at Ei
     try rw [← Ei]
     have B4 : Hid (Below w.heap.size w w4) := by rw [hw4]; exact B3.out.trans ((aA _ _).mono B3.out.size)
     have T4 := Lib.hid (T3.out.below (show Below w3.heap.size w3 w4 by rw [hw4]; exact aA _ _))
     have R4 := Lib.hid (R3.out.below (show Below w3.heap.size w3 w4 by rw [hw4]; exact aA _ _))
     have O4 : Hid (cZ w4 w3.heap.size (bK ah O P 0) (bK ah O P 1)) := by rw [hw4]; exact heap_alloc_new _ _
     have yj : w3.heap.size < w4.heap.size := by rw [hw4]; simp
     clear hw4 Ei
     have c0 := T4.out.c0
     have c1 := T4.out.c1
     have c2 := T4.out.c2
     have o0 := O4.out.c0
     have o1 := O4.out.c1
     have o2 := O4.out.c2
     have o3 := O4.out.c3
     have o4 := O4.out.c4
     have o5 := O4.out.c5
     have o6 := O4.out.c6
     have o7 := O4.out.c7
     go_wp2_with fail
     refine (acB cK X8.out (fP.out.below B4.out) (iH.out.below B4.out) HP.out jO.out).mono ?_
     rintro e w5 ⟨rfl, hb⟩
     have B5 := Lib.hid (B4.out.trans (hb.mono B4.out.size))
     have R5 := Lib.hid (R4.out.below hb)
     have d0 := R5.out.cell0
     have d1 := R5.out.cell1
     have g0 := R5.out.frozen 0
     have g1 := R5.out.frozen 1
     clear hb c0 c1 c2
     go_wp2
     exact bodyPost_ret (v := .tuple #[.agg #[.slice none 0 0, .slice none 0 0], .bool false]) (by simp [results, Tryd.results17, go_sem, d0, d1]) rfl
      ⟨_, _, by rw [HE.out.2.2], by rw [HE.out.1]; exact aF.nil _ _ _, by rw [HE.out.2.1]; exact aF.nil _ _ _, fun g hg => by simp [Value.ownBlock] at hg, (B5.out.setCell (p := ⟨w.heap.size + 1, 0, none⟩) (by simp) _).setCell (p := ⟨w.heap.size + 1, 1, none⟩) (by simp) _⟩
   | true =>
     have HE := Lib.hid (aiX hr hk ho (by omega))
     have X8 := Lib.hid ho
     have aiZ := Lib.hid (abU hpar hk (II.1 ho))
     have zT := Lib.hid hpk
     have KE := Lib.hid hA
     have XV := Lib.hid hon
     have hY := Jm (O := O) (ah := ah) (P := P) (Pk := Pk) ⟨rfl, rfl, rfl, rfl⟩ hon
     have HP2 := Lib.hid (NC hon)
     have X9 := Lib.hid (fun (W : World) (hb : Below w.heap.size w W) => acL cK ⟨rfl, rfl, rfl, rfl⟩ (fP.out.below hb) (iH.out.below hb))
     obtain ⟨N, hN⟩ : ∃ N, N = rowsOf ah.length (dG ah Pk) := ⟨_, rfl⟩
     rw [← hN] at HP2 hY
     rw [hY.1, hY.2.1, hY.2.2.1, hY.2.2.2] at X9
     have acQ : Hid (∀ v, v < O.length → ∀ x, x ∈ row N v ↔ x ∈ row (bU ah Pk) v) := fun v hv x => by rw [hN]; exact abS (jL hA) hpk (by omega) x
     have agO : Hid (∀ v, v < ah.length → nth O v = 0 ∨ nth O v = 1) := fun v hv => (tK hA hv).1
     have Ji : Hid (∀ k, k < O.length → (row ah k).Pairwise (· < ·)) := fun k hk => aeY.1 (aeA (hA.2.2.2 k hk).2.2.2)
     have pz : Hid (∀ j, j < ah.length → Fits (nth Pk j)) := fun j hj => iH.out.fits j (by omega)
     have kR : Hid (∀ k, k ≤ ah.length → ∀ j, j < ah.length → Fits (nth (bD ah O P Pk k) j)) := fun k hk => Uo (jL hA).eu (by omega) hpk.1 pz.out k (by omega)
     clear hr hk hon hpk hA Aa Ac ho hpar hY hN hz wV
     go_enter Tryd.func17, Tryd.ntmps17
     go_wp2_with fail
     rw [← HW1.out]
     refine HC.out.mono ?_
     rintro e w2 ⟨rfl, hb⟩
     have B2 := Lib.hid (B1.out.trans (hb.mono B1.out.size))
     have T2 := Lib.hid (T1.out.below hb)
     have R2 := Lib.hid (R1.out.below hb)
     have X7 : w1.heap.size ≤ w2.heap.size := hb.size
     clear hb HC c0 c1 c2
     have c0 := T2.out.c0
     have c1 := T2.out.c1
     have c2 := T2.out.c2
     go_wp2_with fail
     refine (Qs (HT.out.below B2.out) (fP.out.below B2.out) HP.out).mono ?_
     rintro e w3 ⟨rfl, hb⟩
     have B3 := Lib.hid (B2.out.trans (hb.mono B2.out.size))
     have T3 := Lib.hid (T2.out.below hb)
     have R3 := Lib.hid (R2.out.below hb)
     have aaQ : w2.heap.size ≤ w3.heap.size := hb.size
     clear hb c0 c1 c2
     go_upto_region 4 with fail
     obtain ⟨w4, hw4⟩ : ∃ y, y = w3.alloc (.cells (kZ (bK ah O P 0) (bK ah O P 1)) 71) := ⟨_, rfl⟩
     have Ei := hw4
     simp only [kZ] at Ei
     try rw [← Ei]
     have B4 : Hid (Below w.heap.size w w4) := by rw [hw4]; exact B3.out.trans ((aA _ _).mono B3.out.size)
     have T4 := Lib.hid (T3.out.below (show Below w3.heap.size w3 w4 by rw [hw4]; exact aA _ _))
     have R4 := Lib.hid (R3.out.below (show Below w3.heap.size w3 w4 by rw [hw4]; exact aA _ _))
     have O4 : Hid (cZ w4 w3.heap.size (bK ah O P 0) (bK ah O P 1)) := by rw [hw4]; exact heap_alloc_new _ _
     have yj : w3.heap.size < w4.heap.size := by rw [hw4]; simp
     clear hw4 Ei
     have c0 := T4.out.c0
     have c1 := T4.out.c1
     have c2 := T4.out.c2
     have o0 := O4.out.c0
     have o1 := O4.out.c1
     have o2 := O4.out.c2
     have o3 := O4.out.c3
     have o4 := O4.out.c4
     have o5 := O4.out.c5
     have o6 := O4.out.c6
     have o7 := O4.out.c7
     go_wp2_with fail
     refine (acB cK X8.out (fP.out.below B4.out) (iH.out.below B4.out) HP.out jO.out).mono ?_
     rintro e w5 ⟨rfl, hb⟩
     have B5 := Lib.hid (B4.out.trans (hb.mono B4.out.size))
     have T5 := Lib.hid (T4.out.below hb)
     have R5 := Lib.hid (R4.out.below hb)
     have O5 := Lib.hid (O4.out.below hb)
     have akM : w4.heap.size ≤ w5.heap.size := hb.size
     clear hb c0 c1 c2 o0 o1 o2 o3 o4 o5 o6 o7
     go_wp2_with fail
     refine (MC cK (iH.out.below B5.out)).mono ?_
     rintro e w6 ⟨y, rfl, hy, hb⟩
     obtain ⟨ya, pc, hus, _, hbk⟩ := hy.shape
     obtain ⟨pk, rfl, akN, akO, _, _⟩ := hbk (by omega)
     subst hus
     have HY6 := Lib.hid hy
     have B6 := Lib.hid (B5.out.trans (hb.mono B5.out.size))
     have T6 := Lib.hid (T5.out.below hb)
     have R6 := Lib.hid (R5.out.below hb)
     have O6 := Lib.hid (O5.out.below hb)
     have akP := hb.size
     clear hb hy hbk
     go_upto_region 7 with fail
     obtain ⟨w7, hw7⟩ : ∃ y, y = w6.alloc (.cells #[.slice none 0 0, .slice (some ⟨pk, 0, none⟩) Pk.length pc] 30) := ⟨_, rfl⟩
     rw [← hw7]
     have hb : Below w6.heap.size w6 w7 := by rw [hw7]; exact aA _ _
     have akQ : w6.heap.size < w7.heap.size := by rw [hw7]; simp
     have B7 := Lib.hid (B6.out.trans (hb.mono B6.out.size))
     have T7 := Lib.hid (T6.out.below hb)
     have R7 := Lib.hid (R6.out.below hb)
     have O7 := Lib.hid (O6.out.below hb)
     have HY7 := Lib.hid (HY6.out.below hb)
     have A7 : Hid (aI w7 w6.heap.size 30 (.slice none 0 0) (.slice (some ⟨pk, 0, none⟩) Pk.length pc)) := by rw [hw7]; exact aI.new _ _ _ _
     clear hw7 hb T6 R6 O6 HY6
     have c0 := T7.out.c0
     have c1 := T7.out.c1
     have c2 := T7.out.c2
     go_wp2_with fail
     refine (X9.out w7 B7.out).mono ?_
     rintro e w8 ⟨x, rfl, hx, hb⟩
     obtain ⟨a0, k0, a1, k1, a2, k2, V, rfl, _⟩ := hx.shape3
     have B8 := Lib.hid (B7.out.trans (hb.mono B7.out.size))
     have T8 := Lib.hid (T7.out.below hb)
     have R8 := Lib.hid (R7.out.below hb)
     have O8 := Lib.hid (O7.out.below hb)
     have HY8 := Lib.hid (HY7.out.below hb)
     have A8 := Lib.hid (A7.out.below hb)
     have HX8 := Lib.hid hx
     have akR := hb.size
     clear hx hb T7 R7 O7 HY7 A7 c0 c1 c2
     go_upto_region 8 with fail
     obtain ⟨w9, xF⟩ : ∃ y, y = w8.alloc (.cells #[.slice a0 O.length k0, .slice a1 N.length k1, .slice a2 P.length k2] 35) := ⟨_, rfl⟩
     rw [← xF]
     have hb : Below w8.heap.size w8 w9 := by rw [xF]; exact aA _ _
     have akS : w8.heap.size ≤ w9.heap.size := by rw [xF]; simp
     have B9 := Lib.hid (B8.out.trans (hb.mono B8.out.size))
     have T9 := Lib.hid (T8.out.below hb)
     have R9 := Lib.hid (R8.out.below hb)
     have O9 := Lib.hid (O8.out.below hb)
     have HY9 := Lib.hid (HY8.out.below hb)
     have A9 := Lib.hid (A8.out.below hb)
     have HX9 := Lib.hid (HX8.out.below hb).at
     have U9 : Hid (aT w9 w8.heap.size 35 (.slice a0 O.length k0) (.slice a1 N.length k1) (.slice a2 P.length k2)) := by rw [xF]; exact aT.new _ _ _ _ _
     clear xF hb T8 R8 O8 HY8 A8 HX8
     have u0 := U9.out.c0
     have u1 := U9.out.c1
     have u2 := U9.out.c2
     go_wp2_with fail
     refine (abY (gQ (bU ah Pk) O (nth P)) (HT.out.below B9.out) HX9.out HP2.out).mono ?_
     rintro e wS ⟨b, nb, pb, kb, rfl, hR, hFn, xB, hM, hge, hb⟩
     have BS := Lib.hid (B9.out.trans (hb.mono B9.out.size))
     have TS := Lib.hid (T9.out.below hb)
     have RS := Lib.hid (R9.out.below hb)
     have OS := Lib.hid (O9.out.below hb)
     have HYS := Lib.hid (HY9.out.below hb)
     have AS := Lib.hid (A9.out.below hb)
     have hap := hR.apart
     have hlt0 := hR.lt
     have SS : Hid (nV ah O P b O.length nb pb kb (dB O O.length) (dB P O.length) (bD ah O P Pk 0) wS) := ⟨_, _, hR, (abJ HP2.out).congr (by rw [dQ]; exact HZ.out) (sZ (jL KE.out)) acQ.out, hM, hFn, xB⟩
     have akT := hb.size
     clear hb hR hFn xB hM u0 u1 u2 T9 R9 O9 HY9 A9 HX9 U9 acQ X9
     have hs1 := cO.out
     have hS2 : w.heap.size + 2 ≤ w2.heap.size := by omega
     clear hs1
     obtain ⟨o6, ho6⟩ : ∃ o6, o6 = w3.heap.size := ⟨_, rfl⟩
     obtain ⟨a7, ha7⟩ : ∃ a7, a7 = w6.heap.size := ⟨_, rfl⟩
     rw [← ho6] at OS ⊢
     rw [← ha7] at AS ⊢
     have F1 : w.heap.size + 2 ≤ o6 := by omega
     have F2 : o6 < w5.heap.size := by omega
     have F4 : w6.heap.size ≤ a7 := by omega
     have F5 : a7 < w9.heap.size := by omega
     obtain ⟨F6, F7, F8, F9⟩ := hge
     clear ho6 ha7
     have s0 := TS.out.c0
     have s1 := TS.out.c1
     go_wp2_with fail
     refine (rG ao an O.length ah.length co cn wS (by omega)).mono ?_
     rintro e wT ⟨rfl, hwT⟩
     have Ce : Below wS.heap.size wS wT := by rw [← hwT]; exact aA _ _
     have BT := Lib.hid (BS.out.trans (Ce.mono BS.out.size))
     have TT := Lib.hid (TS.out.below Ce)
     have RT := Lib.hid (RS.out.below Ce)
     have OT := Lib.hid (OS.out.below Ce)
     have HYT := Lib.hid (HYS.out.below Ce)
     have AT := Lib.hid (AS.out.below Ce)
     have ST := Lib.hid (SS.out.only (S := fun k => wS.heap.size ≤ k) (Only.of_below Ce) (by omega) (by omega) (by omega) (by omega))
     have akU : wS.heap.size ≤ wT.heap.size := by rw [← hwT]; simp
     have akV : pk < wS.heap.size := by omega
     clear Ce hwT TS RS OS HYS AS SS s0 s1 BS B9 B8 B7 B6 B5 B4 B3 B2
     go_wp2
     go_loopw [40] (fun iv wr => ∃ (k : Nat) (vx : Value), k ≤ O.length ∧ iv = .int .i64 k ∧ Hid (aI wr a7 30 vx (.slice (some ⟨pk, 0, none⟩) Pk.length pc)) ∧ Hid (aF wr wT.heap.size wr.heap.size vx ((dJ ah O P).take k)) ∧ Hid (aF wr w5.heap.size w6.heap.size (.slice (some ⟨pk, 0, none⟩) Pk.length pc) (bD ah O P Pk k)) ∧ Hid (nV ah O P b O.length nb pb kb (dB O O.length) (dB P O.length) (bD ah O P Pk k) wr) ∧ Hid (Only (fun x => x = a7 ∨ x = pk ∨ x = nb ∨ x = pb ∨ x = kb ∨ wT.heap.size ≤ x) wT wr)) (fun iv _ => O.length - (intOf iv).toNat)
     case atStart => exact ⟨0, _, Nat.zero_le _, rfl, AT, aF.nil _ _ _, HYT, ST, Only.refl _ _⟩
     case round =>
      obtain ⟨k, vx, hk, rfl, HA, HX, HY, DY, HO⟩ := hrel
      obtain ⟨Xk, Qw⟩ : ∃ l, l = (dJ ah O P).take k := ⟨_, rfl⟩
      rw [← Qw] at HX
      have Ya := Lib.hid Qw
      have hxl : Xk.length ≤ O.length := by rw [Qw, List.length_take]; omega
      clear Qw
      have BW : Hid (Below w.heap.size w wr) := ((Only.of_below (S := fun g => w.heap.size ≤ g) BT.out).trans (HO.out.mono fun g hg => by omega)).below (Nat.le_refl _) (fun k h => h)
      have TW := Lib.hid (X4 TT.out HO.out (by omega))
      have RW := Lib.hid (RT.out.only HO.out (by omega))
      have OW := Lib.hid (OT.out.only HO.out (by omega))
      have hsW := HO.out.size
      by_cases hlt : k < O.length
      · have hi1 : (k : Int) < (O.length : Int) := by omega
        have hi2 : (k : Int) < (Pk.length : Int) := by omega
        have hk0 : (0 : Int) ≤ (k : Int) := by omega
        have HG := Lib.hid (aiZ.out k (by omega))
        obtain ⟨kb0, ko, hka, hkc⟩ := iH.out.cell (by omega)
        have Qx := Lib.hid (hkc k (by omega))
        obtain ⟨ob, oo, hoa, hoc⟩ := tZ.out.cell (by omega)
        have tY := Lib.hid (hoc k (by omega))
        subst hka hoa
        clear hkc hoc
        cases hrr : bK ah O P 1 k with
        | false =>
          have hwn : nth (dJ ah O P) k = 0 := by rw [Qu HZ.out hlt, hrr]; rfl
          have HRR := Lib.hid hrr
          have iK := Lib.hid hwn
          clear hrr hwn
          have o0 := OW.out.c0
          have o1 := OW.out.c1
          have o2 := OW.out.c2
          have o3 := OW.out.c3
          have o4 := OW.out.c4
          have o5 := OW.out.c5
          have o6 := OW.out.c6
          have o7 := OW.out.c7
          go_wp2_with fail
          refine (aaG _ _ k HRR.out (by omega)).mono ?_
          rintro e wi ⟨rfl, hb⟩
          have Ki := Lib.hid hb
          have Ej := Lib.hid (HA.out.below hb)
          have zh := Lib.hid (HX.out.below hb)
          clear hb o0 o1 o2 o3 o4 o5 o6 o7
          have a0 := Ej.out.cell0
          have hsi := Ki.out.size
          go_wp2_with (at_builtin; refine wpList_append_own_at _ rfl _ _ 22 rfl wT.heap.size 2 i0 (.int .i64 0) 1 8 Tryd.underlying22 hi hz0 hz1 hz2 rfl (by decide) _ _ _ rfl (zh.out.own.alloc _) ⟨wi.heap.size, 0, none⟩ 1 1 [.int .i64 0] rfl rfl ?c1 ?c2 ?c3 ?c4 ?c5 ?_)
          try (case c1 => exact cell_one_new _ _ _)
          try (case c2 => first | rfl | (intro u hu; simp at hu; subst hu; rfl))
          case c3 => unfold maxLen; omega
          case c4 => omega
          case c5 => first | (simp; omega) | omega
          intro vw wj hown hgrow _ hwh
          have hgj : Only (fun g => wT.heap.size ≤ g) wi wj := ((Only.of_below (aA wi _)).mono fun g hg => by omega).trans ((Only.dV hgrow).mono fun g hg => (zh.out.own.lt g hg).1)
          have zi : Hid (aF wj wT.heap.size wj.heap.size vw ((dJ ah O P).take (k + 1))) := by
           have h := zh.out.snoc (x := 0) (by unfold Fits; omega) (by omega) hown
           rw [take_snoc (by rw [yh]; omega), iK.out, ← Ya.out]
           exact h
          have zk := Lib.hid (Ej.out.only hgj (by omega))
          have KG : Hid (Only (fun g => wT.heap.size ≤ g) wr wj) := ((Only.of_below Ki.out).mono fun g hg => by omega).trans hgj
          obtain ⟨xa, xn, xc, hxs⟩ : ∃ a n c, vw = .slice a n c := by
           obtain ⟨a, c, h⟩ := zi.out.shape2
           exact ⟨_, _, _, h⟩
          subst hxs
          have e0 := zk.out.cell0
          have f0 := zk.out.frozen 0
          clear hown hgrow hgj hwh a0
          go_upto_region 14 with fail
          obtain ⟨wm, hwm⟩ : ∃ y, y = wj.setCell ⟨a7, 0, none⟩ (.slice xa xn xc) := ⟨_, rfl⟩
          rw [← hwm]
          have zl : Hid (aI wm a7 30 (.slice xa xn xc) (.slice (some ⟨pk, 0, none⟩) Pk.length pc)) := by rw [hwm]; exact zk.out.set0 _
          have hjm : Only (fun g => g = a7) wj wm := by rw [hwm]; exact aI.zI _
          have zn : Hid (aF wm wT.heap.size wm.heap.size (.slice xa xn xc) ((dJ ah O P).take (k + 1))) := (zi.out.only hjm fun g hg e => by have := (zi.out.own.lt g hg).1; omega).bg
          have rC : Hid (Only (fun x => x = a7 ∨ wT.heap.size ≤ x) wr wm) := (KG.out.mono fun g hg => .inr hg).trans (hjm.mono fun g hg => .inl hg)
          have hsm := rC.out.size
          clear hwm hjm e0 f0 zk zi KG Ej zh Ki
          have Em := Lib.hid (HY.out.only rC.out (fun g hg => by simp [Value.ownBlock] at hg; omega))
          have En := Lib.hid (DY.out.only rC.out (by omega) (by omega) (by omega) (by omega))
          have TM := Lib.hid (X4 TW.out rC.out (by omega))
          have OM := Lib.hid (OW.out.only rC.out (by omega))
          have zo : Hid (Only (fun x => x = a7 ∨ x = pk ∨ x = nb ∨ x = pb ∨ x = kb ∨ wT.heap.size ≤ x) wT wm) := HO.out.trans (rC.out.mono fun g hg => by omega)
          have BM : Hid (Below w.heap.size w wm) := ((Only.of_below (S := fun g => w.heap.size ≤ g) BT.out).trans (zo.out.mono fun g hg => by omega)).below (Nat.le_refl _) (fun k h => h)
          have t0 := TM.out.c0
          have o1 := (BM.out.cell (p := ⟨ob, oo + k, none⟩) (World.block_lt_of_cell? _ _ tY.out)).trans tY.out
          have p1 := (BM.out.cell (p := ⟨kb0, ko + k, none⟩) (World.block_lt_of_cell? _ _ Qx.out)).trans Qx.out
          by_cases how : nth O k = 0
          · rw [how] at o1
            by_cases hpm : nth Pk k = -1
            · rw [hpm] at p1
              have HOW := Lib.hid how
              have hneg : nth (bD ah O P Pk k) k < 0 := by rw [HG.out.rest k (Nat.le_refl _) (by omega), hpm]; decide
              obtain ⟨Yc, htot, hex⟩ := abV HP.out HG.out (by omega) (by rw [iK.out, how]) hneg
              rw [how] at htot hex
              obtain ⟨z, hzz⟩ : ∃ z, gu (fun u => fC ah O P ((bD ah O P Pk k).set k u) (bC ah O P 0) 0) (bC ah O P 0) (row ah k) = z := ⟨_, rfl⟩
              have hst : bD ah O P Pk (k + 1) = (bD ah O P Pk k).set k z := by
               rw [NK (fun h => h.elim (fun h => by omega) (fun h => h (by rw [iK.out, how]))), how, hzz]
              have HST := Lib.hid hst
              have Yd : Hid (Fits z) := by
               have h := kR.out (k + 1) (by omega) k (by omega)
               rw [hst, nP (by rw [HG.out.len]; omega), if_pos rfl] at h
               exact h
              have Ye : Hid (∀ W, Only (fun x => wm.heap.size ≤ x) wm W → Calls Tryd.prog 65 #[.pointer (some ⟨b, 0, none⟩), .int .i64 (k : Int), .int .i64 0, aW (bK ah O P 0)] W fun e w' => e = .returned (.int .i64 z) ∧ nV ah O P b O.length nb pb kb (dB O O.length) (dB P O.length) (bD ah O P Pk (k + 1)) w' ∧ Only (fun x => x = nb ∨ x = pb ∨ x = kb ∨ W.heap.size ≤ x) W w') := fun W hW => by
               obtain ⟨E', ru, q1, q2, q3, q4, q5⟩ := En.out
               rw [acO HZ.out, hst]
               have hTW := HT.out.below (((Only.of_below (S := fun g => w.heap.size ≤ g) BM.out).trans (hW.mono fun g hg => by omega)).below (Nat.le_refl _) (fun k h => h))
               exact abW hTW (q1.only hW (by omega) (by omega) (by omega)) (q3.only hW (by omega)) (q5.only hW (by omega)) (q4.only hW (by omega)) (by have := HT.out.lt; omega) q2 (VR HP.out) HZ.out (by rw [HG.out.len]; exact HZ.out) (jL KE.out) (Ji.out k hlt) hlt hneg (fun x hx => by have := Gl hx; omega) htot (by omega) hex hzz
              have KH : Hid (Only (fun x => x = nb ∨ x = pb ∨ x = kb ∨ wm.heap.size ≤ x) wm wm.drew) := kS (Only.refl _ _)
              have KI : Hid (∀ W', Only (fun x => x = nb ∨ x = pb ∨ x = kb ∨ wm.heap.size ≤ x) wm W' → W'.cell? ⟨a7, 1, none⟩ = some (.slice (some ⟨pk, 0, none⟩) Pk.length pc) ∧ W'.cell? ⟨o6, 0, none⟩ = some (.int .u64 (aj (bK ah O P 0) 0)) ∧ W'.cell? ⟨o6, 1, none⟩ = some (.int .u64 (aj (bK ah O P 0) 1)) ∧ W'.cell? ⟨o6, 2, none⟩ = some (.int .u64 (aj (bK ah O P 0) 2)) ∧ W'.cell? ⟨o6, 3, none⟩ = some (.int .u64 (aj (bK ah O P 0) 3)) ∧ W'.cell? ⟨o6, 4, none⟩ = some (.int .u64 (aj (bK ah O P 1) 0)) ∧ W'.cell? ⟨o6, 5, none⟩ = some (.int .u64 (aj (bK ah O P 1) 1)) ∧ W'.cell? ⟨o6, 6, none⟩ = some (.int .u64 (aj (bK ah O P 1) 2)) ∧ W'.cell? ⟨o6, 7, none⟩ = some (.int .u64 (aj (bK ah O P 1) 3))) := fun W' ho => by
               have om := OM.out.only ho (by omega)
               exact ⟨(zl.out.only ho (by omega)).cell1, om.c0, om.c1, om.c2, om.c3, om.c4, om.c5, om.c6, om.c7⟩
              clear Yc htot hex hzz hst hneg hpm how
              go_upto_region 15 with fail
              refine jB (S := (fun W' => W'.cell? ⟨a7, 1, none⟩ = some (.slice (some ⟨pk, 0, none⟩) Pk.length pc) ∧ W'.cell? ⟨o6, 0, none⟩ = some (.int .u64 (aj (bK ah O P 0) 0)) ∧ W'.cell? ⟨o6, 1, none⟩ = some (.int .u64 (aj (bK ah O P 0) 1)) ∧ W'.cell? ⟨o6, 2, none⟩ = some (.int .u64 (aj (bK ah O P 0) 2)) ∧ W'.cell? ⟨o6, 3, none⟩ = some (.int .u64 (aj (bK ah O P 0) 3)) ∧ W'.cell? ⟨o6, 4, none⟩ = some (.int .u64 (aj (bK ah O P 1) 0)) ∧ W'.cell? ⟨o6, 5, none⟩ = some (.int .u64 (aj (bK ah O P 1) 1)) ∧ W'.cell? ⟨o6, 6, none⟩ = some (.int .u64 (aj (bK ah O P 1) 2)) ∧ W'.cell? ⟨o6, 7, none⟩ = some (.int .u64 (aj (bK ah O P 1) 3)))) (m := 11) (by kernel_rfl) (KI.out _ KH.out) (fun hHd => ?_)
              refine aB (i := 0) (v := ?rW) rfl (by kernel_rfl) (by decide) (by kernel_rfl) (by kernel_rfl) (by kernel_rfl) (fun _ _ _ h => h) (Or.inl ⟨by rfl, ?hm1⟩) (by assumption) ?_
              case hm1 => (intro w hSw; (try dsimp only at hSw); go_simp; first | done | with_reducible rfl)
              try simp only [Act.put, g1, g2, g3]
              refine aB (i := 1) (v := ?rZ) rfl (by kernel_rfl) (by decide) (by kernel_rfl) (by kernel_rfl) (by kernel_rfl) (fun _ _ _ h => h) (Or.inl ⟨by rfl, ?hm2⟩) (by assumption) ?_
              case hm2 => (intro w hSw; (try dsimp only at hSw); go_simp; first | done | with_reducible rfl)
              try simp only [Act.put, g1, g2, g3]
              refine aB (i := 2) (v := ?su) rfl (by kernel_rfl) (by decide) (by kernel_rfl) (by kernel_rfl) (by kernel_rfl) (fun _ _ _ h => h) (Or.inl ⟨by rfl, ?iR⟩) (by assumption) ?_
              case iR => (intro w hSw; (try dsimp only at hSw); go_simp; first | done | with_reducible rfl)
              try simp only [Act.put, g1, g2, g3]
              refine aB (i := 3) (v := ?uF) rfl (by kernel_rfl) (by decide) (by kernel_rfl) (by kernel_rfl) (by kernel_rfl) (fun _ _ _ h => h) (Or.inl ⟨by rfl, ?hm4⟩) (by assumption) ?_
              case hm4 => (intro w hSw; (try dsimp only at hSw); go_simp; first | done | with_reducible rfl)
              try simp only [Act.put, g1, g2, g3]
              refine aB (i := 4) (v := ?wW) rfl (by kernel_rfl) (by decide) (by kernel_rfl) (by kernel_rfl) (by kernel_rfl) (fun _ _ _ h => h) (Or.inl ⟨by rfl, ?jQ⟩) (by assumption) ?_
              case jQ => (intro w hSw; (try dsimp only at hSw); go_simp; first | done | with_reducible rfl)
              try simp only [Act.put, g1, g2, g3]
              refine aB (i := 5) (v := ?yF) rfl (by kernel_rfl) (by decide) (by kernel_rfl) (by kernel_rfl) (by kernel_rfl) (fun _ _ _ h => h) (Or.inl ⟨by rfl, ?kV⟩) (by assumption) ?_
              case kV => (intro w hSw; (try dsimp only at hSw); go_simp; first | done | with_reducible rfl)
              try simp only [Act.put, g1, g2, g3]
              refine aB (i := 6) (v := ?AX) rfl (by kernel_rfl) (by decide) (by kernel_rfl) (by kernel_rfl) (by kernel_rfl) (fun _ _ _ h => h) (Or.inl ⟨by rfl, ?mV⟩) (by assumption) ?_
              case mV => (intro w hSw; (try dsimp only at hSw); go_simp; first | done | with_reducible rfl)
              try simp only [Act.put, g1, g2, g3]
              refine aB (i := 7) (v := ?AZ) rfl (by kernel_rfl) (by decide) (by kernel_rfl) (by kernel_rfl) (by kernel_rfl) (fun _ _ _ h => h) (Or.inl ⟨by rfl, ?mW⟩) (by assumption) ?_
              case mW => (intro w hSw; (try dsimp only at hSw); go_simp; first | done | with_reducible rfl)
              try simp only [Act.put, g1, g2, g3]
              refine aB (i := 8) (v := ?Bg) rfl (by kernel_rfl) (by decide) (by kernel_rfl) (by kernel_rfl) (by kernel_rfl) (fun _ _ _ h => h) (Or.inl ⟨by rfl, ?mX⟩) (by assumption) ?_
              case mX => (intro w hSw; (try dsimp only at hSw); go_simp; first | done | with_reducible rfl)
              try simp only [Act.put, g1, g2, g3]
              refine aG (i := 9) (by kernel_rfl) rfl (fun K hK => ?_)
              go_simp
              go_at_call 65
              refine (Ye.out wm.drew (kS (Only.refl _ _))).mono ?_
              rintro e wq ⟨rfl, Eo, hoq⟩
              have Eo := Lib.hid Eo
              have Kq : Hid (Only (fun x => x = nb ∨ x = pb ∨ x = kb ∨ wm.heap.size ≤ x) wm wq) := KH.out.trans hoq
              clear hoq
              go_wp2_with fail
              refine hK.out _ _ (fun _ => KI.out _ Kq.out) (fun hHd => ?_)
              have hHd := hHd (by decide)
              clear hK K
              try simp only [Act.put, g1, g2, g3]
              refine aB (i := 10) (v := ?Bj) rfl (by kernel_rfl) (by decide) (by kernel_rfl) (by kernel_rfl) (by kernel_rfl) (fun _ _ _ h => h) (Or.inl ⟨by rfl, ?mY⟩) (by assumption) ?_
              case mY => (intro w hSw; (try dsimp only at hSw); go_simp; first | done | with_reducible rfl)
              try simp only [Act.put, g1, g2, g3]
              have Yf := Lib.hid (zl.out.only Kq.out (by omega))
              have KJ := Lib.hid (zn.out.only Kq.out (fun g hg h => by have := (zn.out.own.lt g hg); omega)).bg
              have Ep := Lib.hid (Em.out.only Kq.out (fun g hg => by simp [Value.ownBlock] at hg; omega))
              obtain ⟨yb, yo, hya, zZ⟩ := (X6 Ep.out).cell (by rw [HG.out.len]; omega)
              cases hya
              have y1 := zZ k (by rw [HG.out.len]; omega)
              rw [Nat.zero_add] at y1
              have yf : wq.frozen? ⟨pk, k, none⟩ = false := by
               obtain ⟨_, _, e, _, hbk⟩ := Ep.out.shape
               injection e with e1 _ _
               subst e1
               obtain ⟨_, eg, _, _, _, hfr⟩ := hbk (by rw [HG.out.len]; omega)
               cases eg
               exact hfr k
              have ai0 := Kq.out.size
              clear zZ hHd
              refine aG (i := 11) (by kernel_rfl) rfl (fun K hK => ?_)
              go_simp
              refine hK.out _ _ (fun h => absurd h (by decide)) (fun _ => ?_)
              clear hK K
              try simp only [Act.put, g1, g2, g3]
              refine dA (by kernel_rfl) ?_ _
              obtain ⟨wn, hwn⟩ : ∃ y, y = wq.setCell ⟨pk, k, none⟩ (.int .i64 z) := ⟨_, rfl⟩
              rw [← hwn]
              have qG : Only (fun g => g = pk) wq wn := by rw [hwn]; exact (Only.refl (fun g => g = pk) wq).setCell (p := ⟨pk, k, none⟩) rfl _
              have vI : Hid (aF wn w5.heap.size w6.heap.size (.slice (some ⟨pk, 0, none⟩) Pk.length pc) (bD ah O P Pk (k + 1))) := by
               rw [hwn, HST.out]
               exact Ep.out.store (by rw [HG.out.len]; omega) (by rw [HG.out.len]; omega) Yd.out
              have Yg := Lib.hid (Yf.out.only qG (by omega))
              have Yh := Lib.hid (KJ.out.only qG (fun g hg h => by have := (KJ.out.own.lt g hg).1; omega)).bg
              have lY := Lib.hid (Eo.out.only qG (by omega) (by omega) (by omega) (by omega))
              have yg : Hid (Only (fun x => x = a7 ∨ x = pk ∨ x = nb ∨ x = pb ∨ x = kb ∨ wT.heap.size ≤ x) wT wn) := (zo.out.trans (Kq.out.mono fun g hg => by omega)).trans (qG.mono fun g hg => by omega)
              clear hwn qG y1 yf
              go_wp2
              go_roundw
              case rel => exact ⟨k + 1, .slice xa xn xc, by omega, by go_num, Yg, Yh, vI, lY, yg⟩
              case measure => simp [intOf]; omega
            · have oQ : bD ah O P Pk (k + 1) = bD ah O P Pk k := Gp (.inl (by
               rw [HG.out.rest k (Nat.le_refl _) (by omega)]
               rcases zT.out.2 k (by omega) with h | h
               · exact absurd h hpm
               · exact (jL KE.out).pos (by omega) _ h))
              have vI : Hid (aF wm w5.heap.size w6.heap.size (.slice (some ⟨pk, 0, none⟩) Pk.length pc) (bD ah O P Pk (k + 1))) := by rw [oQ]; exact Em.out
              have lY : Hid (nV ah O P b O.length nb pb kb (dB O O.length) (dB P O.length) (bD ah O P Pk (k + 1)) wm) := by rw [oQ]; exact En.out
              have hb1 : (nth Pk k == -1) = false := beq_eq_false_iff_ne.2 hpm
              clear oQ hpm how
              go_wp2
              go_roundw
              case rel => exact ⟨k + 1, .slice xa xn xc, by omega, by go_num, zl, zn, vI, lY, zo⟩
              case measure => simp [intOf]; omega
          · have oQ : bD ah O P Pk (k + 1) = bD ah O P Pk k := Gp (.inr (by rw [iK.out]; exact fun h => how h.symm))
            have vI : Hid (aF wm w5.heap.size w6.heap.size (.slice (some ⟨pk, 0, none⟩) Pk.length pc) (bD ah O P Pk (k + 1))) := by rw [oQ]; exact Em.out
            have lY : Hid (nV ah O P b O.length nb pb kb (dB O O.length) (dB P O.length) (bD ah O P Pk (k + 1)) wm) := by rw [oQ]; exact En.out
            have hb1 : ((0 : Int) == nth O k) = false := beq_eq_false_iff_ne.2 fun h => how h.symm
            clear oQ how
            go_wp2
            go_roundw
            case rel => exact ⟨k + 1, .slice xa xn xc, by omega, by go_num, zl, zn, vI, lY, zo⟩
            case measure => simp [intOf]; omega
        | true =>
          have hwn : nth (dJ ah O P) k = 1 := by rw [Qu HZ.out hlt, hrr]; rfl
          have HRR := Lib.hid hrr
          have iK := Lib.hid hwn
          clear hrr hwn
          have o0 := OW.out.c0
          have o1 := OW.out.c1
          have o2 := OW.out.c2
          have o3 := OW.out.c3
          have o4 := OW.out.c4
          have o5 := OW.out.c5
          have o6 := OW.out.c6
          have o7 := OW.out.c7
          go_wp2_with fail
          refine (aaG _ _ k HRR.out (by omega)).mono ?_
          rintro e wi ⟨rfl, hb⟩
          have Ki := Lib.hid hb
          have Ej := Lib.hid (HA.out.below hb)
          have zh := Lib.hid (HX.out.below hb)
          clear hb o0 o1 o2 o3 o4 o5 o6 o7
          have a0 := Ej.out.cell0
          have hsi := Ki.out.size
          go_wp2_with (at_builtin; refine wpList_append_own_at _ rfl _ _ 22 rfl wT.heap.size 2 i0 (.int .i64 0) 1 8 Tryd.underlying22 hi hz0 hz1 hz2 rfl (by decide) _ _ _ rfl (zh.out.own.alloc _) ⟨wi.heap.size, 0, none⟩ 1 1 [.int .i64 1] rfl rfl ?c1 ?c2 ?c3 ?c4 ?c5 ?_)
          try (case c1 => exact cell_one_new _ _ _)
          try (case c2 => first | rfl | (intro u hu; simp at hu; subst hu; rfl))
          case c3 => unfold maxLen; omega
          case c4 => omega
          case c5 => first | (simp; omega) | omega
          intro vw wj hown hgrow _ hwh
          have hgj : Only (fun g => wT.heap.size ≤ g) wi wj := ((Only.of_below (aA wi _)).mono fun g hg => by omega).trans ((Only.dV hgrow).mono fun g hg => (zh.out.own.lt g hg).1)
          have zi : Hid (aF wj wT.heap.size wj.heap.size vw ((dJ ah O P).take (k + 1))) := by
           have h := zh.out.snoc (x := 1) (by unfold Fits; omega) (by omega) hown
           rw [take_snoc (by rw [yh]; omega), iK.out, ← Ya.out]
           exact h
          have zk := Lib.hid (Ej.out.only hgj (by omega))
          have KG : Hid (Only (fun g => wT.heap.size ≤ g) wr wj) := ((Only.of_below Ki.out).mono fun g hg => by omega).trans hgj
          obtain ⟨xa, xn, xc, hxs⟩ : ∃ a n c, vw = .slice a n c := by
           obtain ⟨a, c, h⟩ := zi.out.shape2
           exact ⟨_, _, _, h⟩
          subst hxs
          have e0 := zk.out.cell0
          have f0 := zk.out.frozen 0
          clear hown hgrow hgj hwh a0
          go_upto_region 14 with fail
          obtain ⟨wm, hwm⟩ : ∃ y, y = wj.setCell ⟨a7, 0, none⟩ (.slice xa xn xc) := ⟨_, rfl⟩
          rw [← hwm]
          have zl : Hid (aI wm a7 30 (.slice xa xn xc) (.slice (some ⟨pk, 0, none⟩) Pk.length pc)) := by rw [hwm]; exact zk.out.set0 _
          have hjm : Only (fun g => g = a7) wj wm := by rw [hwm]; exact aI.zI _
          have zn : Hid (aF wm wT.heap.size wm.heap.size (.slice xa xn xc) ((dJ ah O P).take (k + 1))) := (zi.out.only hjm fun g hg e => by have := (zi.out.own.lt g hg).1; omega).bg
          have rC : Hid (Only (fun x => x = a7 ∨ wT.heap.size ≤ x) wr wm) := (KG.out.mono fun g hg => .inr hg).trans (hjm.mono fun g hg => .inl hg)
          have hsm := rC.out.size
          clear hwm hjm e0 f0 zk zi KG Ej zh Ki
          have Em := Lib.hid (HY.out.only rC.out (fun g hg => by simp [Value.ownBlock] at hg; omega))
          have En := Lib.hid (DY.out.only rC.out (by omega) (by omega) (by omega) (by omega))
          have TM := Lib.hid (X4 TW.out rC.out (by omega))
          have OM := Lib.hid (OW.out.only rC.out (by omega))
          have zo : Hid (Only (fun x => x = a7 ∨ x = pk ∨ x = nb ∨ x = pb ∨ x = kb ∨ wT.heap.size ≤ x) wT wm) := HO.out.trans (rC.out.mono fun g hg => by omega)
          have BM : Hid (Below w.heap.size w wm) := ((Only.of_below (S := fun g => w.heap.size ≤ g) BT.out).trans (zo.out.mono fun g hg => by omega)).below (Nat.le_refl _) (fun k h => h)
          have t0 := TM.out.c0
          have o1 := (BM.out.cell (p := ⟨ob, oo + k, none⟩) (World.block_lt_of_cell? _ _ tY.out)).trans tY.out
          have p1 := (BM.out.cell (p := ⟨kb0, ko + k, none⟩) (World.block_lt_of_cell? _ _ Qx.out)).trans Qx.out
          by_cases how : nth O k = 1
          · rw [how] at o1
            by_cases hpm : nth Pk k = -1
            · rw [hpm] at p1
              have HOW := Lib.hid how
              have hneg : nth (bD ah O P Pk k) k < 0 := by rw [HG.out.rest k (Nat.le_refl _) (by omega), hpm]; decide
              obtain ⟨Yc, htot, hex⟩ := abV HP.out HG.out (by omega) (by rw [iK.out, how]) hneg
              rw [how] at htot hex
              obtain ⟨z, hzz⟩ : ∃ z, gu (fun u => fC ah O P ((bD ah O P Pk k).set k u) (bC ah O P 1) 1) (bC ah O P 1) (row ah k) = z := ⟨_, rfl⟩
              have hst : bD ah O P Pk (k + 1) = (bD ah O P Pk k).set k z := by
               rw [NK (fun h => h.elim (fun h => by omega) (fun h => h (by rw [iK.out, how]))), how, hzz]
              have HST := Lib.hid hst
              have Yd : Hid (Fits z) := by
               have h := kR.out (k + 1) (by omega) k (by omega)
               rw [hst, nP (by rw [HG.out.len]; omega), if_pos rfl] at h
               exact h
              have Ye : Hid (∀ W, Only (fun x => wm.heap.size ≤ x) wm W → Calls Tryd.prog 65 #[.pointer (some ⟨b, 0, none⟩), .int .i64 (k : Int), .int .i64 1, aW (bK ah O P 1)] W fun e w' => e = .returned (.int .i64 z) ∧ nV ah O P b O.length nb pb kb (dB O O.length) (dB P O.length) (bD ah O P Pk (k + 1)) w' ∧ Only (fun x => x = nb ∨ x = pb ∨ x = kb ∨ W.heap.size ≤ x) W w') := fun W hW => by
               obtain ⟨E', ru, q1, q2, q3, q4, q5⟩ := En.out
               rw [acO HZ.out, hst]
               have hTW := HT.out.below (((Only.of_below (S := fun g => w.heap.size ≤ g) BM.out).trans (hW.mono fun g hg => by omega)).below (Nat.le_refl _) (fun k h => h))
               exact abW hTW (q1.only hW (by omega) (by omega) (by omega)) (q3.only hW (by omega)) (q5.only hW (by omega)) (q4.only hW (by omega)) (by have := HT.out.lt; omega) q2 (VR HP.out) HZ.out (by rw [HG.out.len]; exact HZ.out) (jL KE.out) (Ji.out k hlt) hlt hneg (fun x hx => by have := Gl hx; omega) htot (by omega) hex hzz
              have KH : Hid (Only (fun x => x = nb ∨ x = pb ∨ x = kb ∨ wm.heap.size ≤ x) wm wm.drew) := kS (Only.refl _ _)
              have KI : Hid (∀ W', Only (fun x => x = nb ∨ x = pb ∨ x = kb ∨ wm.heap.size ≤ x) wm W' → W'.cell? ⟨a7, 1, none⟩ = some (.slice (some ⟨pk, 0, none⟩) Pk.length pc) ∧ W'.cell? ⟨o6, 0, none⟩ = some (.int .u64 (aj (bK ah O P 0) 0)) ∧ W'.cell? ⟨o6, 1, none⟩ = some (.int .u64 (aj (bK ah O P 0) 1)) ∧ W'.cell? ⟨o6, 2, none⟩ = some (.int .u64 (aj (bK ah O P 0) 2)) ∧ W'.cell? ⟨o6, 3, none⟩ = some (.int .u64 (aj (bK ah O P 0) 3)) ∧ W'.cell? ⟨o6, 4, none⟩ = some (.int .u64 (aj (bK ah O P 1) 0)) ∧ W'.cell? ⟨o6, 5, none⟩ = some (.int .u64 (aj (bK ah O P 1) 1)) ∧ W'.cell? ⟨o6, 6, none⟩ = some (.int .u64 (aj (bK ah O P 1) 2)) ∧ W'.cell? ⟨o6, 7, none⟩ = some (.int .u64 (aj (bK ah O P 1) 3))) := fun W' ho => by
               have om := OM.out.only ho (by omega)
               exact ⟨(zl.out.only ho (by omega)).cell1, om.c0, om.c1, om.c2, om.c3, om.c4, om.c5, om.c6, om.c7⟩
              clear Yc htot hex hzz hst hneg hpm how
              go_upto_region 15 with fail
              refine jB (S := (fun W' => W'.cell? ⟨a7, 1, none⟩ = some (.slice (some ⟨pk, 0, none⟩) Pk.length pc) ∧ W'.cell? ⟨o6, 0, none⟩ = some (.int .u64 (aj (bK ah O P 0) 0)) ∧ W'.cell? ⟨o6, 1, none⟩ = some (.int .u64 (aj (bK ah O P 0) 1)) ∧ W'.cell? ⟨o6, 2, none⟩ = some (.int .u64 (aj (bK ah O P 0) 2)) ∧ W'.cell? ⟨o6, 3, none⟩ = some (.int .u64 (aj (bK ah O P 0) 3)) ∧ W'.cell? ⟨o6, 4, none⟩ = some (.int .u64 (aj (bK ah O P 1) 0)) ∧ W'.cell? ⟨o6, 5, none⟩ = some (.int .u64 (aj (bK ah O P 1) 1)) ∧ W'.cell? ⟨o6, 6, none⟩ = some (.int .u64 (aj (bK ah O P 1) 2)) ∧ W'.cell? ⟨o6, 7, none⟩ = some (.int .u64 (aj (bK ah O P 1) 3)))) (m := 11) (by kernel_rfl) (KI.out _ KH.out) (fun hHd => ?_)
              refine aB (i := 0) (v := ?Bo) rfl (by kernel_rfl) (by decide) (by kernel_rfl) (by kernel_rfl) (by kernel_rfl) (fun _ _ _ h => h) (Or.inl ⟨by rfl, ?mZ⟩) (by assumption) ?_
              case mZ => (intro w hSw; (try dsimp only at hSw); go_simp; first | done | with_reducible rfl)
              try simp only [Act.put, g1, g2, g3]
              refine aB (i := 1) (v := ?Bq) rfl (by kernel_rfl) (by decide) (by kernel_rfl) (by kernel_rfl) (by kernel_rfl) (fun _ _ _ h => h) (Or.inl ⟨by rfl, ?ng⟩) (by assumption) ?_
              case ng => (intro w hSw; (try dsimp only at hSw); go_simp; first | done | with_reducible rfl)
              try simp only [Act.put, g1, g2, g3]
              refine aB (i := 2) (v := ?BA) rfl (by kernel_rfl) (by decide) (by kernel_rfl) (by kernel_rfl) (by kernel_rfl) (fun _ _ _ h => h) (Or.inl ⟨by rfl, ?ni⟩) (by assumption) ?_
              case ni => (intro w hSw; (try dsimp only at hSw); go_simp; first | done | with_reducible rfl)
              try simp only [Act.put, g1, g2, g3]
              refine aB (i := 3) (v := ?BD) rfl (by kernel_rfl) (by decide) (by kernel_rfl) (by kernel_rfl) (by kernel_rfl) (fun _ _ _ h => h) (Or.inl ⟨by rfl, ?ny⟩) (by assumption) ?_
              case ny => (intro w hSw; (try dsimp only at hSw); go_simp; first | done | with_reducible rfl)
              try simp only [Act.put, g1, g2, g3]
              refine aB (i := 4) (v := ?BH) rfl (by kernel_rfl) (by decide) (by kernel_rfl) (by kernel_rfl) (by kernel_rfl) (fun _ _ _ h => h) (Or.inl ⟨by rfl, ?nC⟩) (by assumption) ?_
              case nC => (intro w hSw; (try dsimp only at hSw); go_simp; first | done | with_reducible rfl)
              try simp only [Act.put, g1, g2, g3]
              refine aB (i := 5) (v := ?DL) rfl (by kernel_rfl) (by decide) (by kernel_rfl) (by kernel_rfl) (by kernel_rfl) (fun _ _ _ h => h) (Or.inl ⟨by rfl, ?nN⟩) (by assumption) ?_
              case nN => (intro w hSw; (try dsimp only at hSw); go_simp; first | done | with_reducible rfl)
              try simp only [Act.put, g1, g2, g3]
              refine aB (i := 6) (v := ?GR) rfl (by kernel_rfl) (by decide) (by kernel_rfl) (by kernel_rfl) (by kernel_rfl) (fun _ _ _ h => h) (Or.inl ⟨by rfl, ?qX⟩) (by assumption) ?_
              case qX => (intro w hSw; (try dsimp only at hSw); go_simp; first | done | with_reducible rfl)
              try simp only [Act.put, g1, g2, g3]
              refine aB (i := 7) (v := ?JD) rfl (by kernel_rfl) (by decide) (by kernel_rfl) (by kernel_rfl) (by kernel_rfl) (fun _ _ _ h => h) (Or.inl ⟨by rfl, ?hm18⟩) (by assumption) ?_
              case hm18 => (intro w hSw; (try dsimp only at hSw); go_simp; first | done | with_reducible rfl)
              try simp only [Act.put, g1, g2, g3]
              refine aB (i := 8) (v := ?JE) rfl (by kernel_rfl) (by decide) (by kernel_rfl) (by kernel_rfl) (by kernel_rfl) (fun _ _ _ h => h) (Or.inl ⟨by rfl, ?uK⟩) (by assumption) ?_
              case uK => (intro w hSw; (try dsimp only at hSw); go_simp; first | done | with_reducible rfl)
              try simp only [Act.put, g1, g2, g3]
              refine aG (i := 9) (by kernel_rfl) rfl (fun K hK => ?_)
              go_simp
              go_at_call 65
              refine (Ye.out wm.drew (kS (Only.refl _ _))).mono ?_
              rintro e wq ⟨rfl, Eo, hoq⟩
              have Eo := Lib.hid Eo
              have Kq : Hid (Only (fun x => x = nb ∨ x = pb ∨ x = kb ∨ wm.heap.size ≤ x) wm wq) := KH.out.trans hoq
              clear hoq
              go_wp2_with fail
              refine hK.out _ _ (fun _ => KI.out _ Kq.out) (fun hHd => ?_)
              have hHd := hHd (by decide)
              clear hK K
              try simp only [Act.put, g1, g2, g3]
              refine aB (i := 10) (v := ?JF) rfl (by kernel_rfl) (by decide) (by kernel_rfl) (by kernel_rfl) (by kernel_rfl) (fun _ _ _ h => h) (Or.inl ⟨by rfl, ?uM⟩) (by assumption) ?_
              case uM => (intro w hSw; (try dsimp only at hSw); go_simp; first | done | with_reducible rfl)
              try simp only [Act.put, g1, g2, g3]
              have Yf := Lib.hid (zl.out.only Kq.out (by omega))
              have KJ := Lib.hid (zn.out.only Kq.out (fun g hg h => by have := (zn.out.own.lt g hg); omega)).bg
              have Ep := Lib.hid (Em.out.only Kq.out (fun g hg => by simp [Value.ownBlock] at hg; omega))
              obtain ⟨yb, yo, hya, zZ⟩ := (X6 Ep.out).cell (by rw [HG.out.len]; omega)
              cases hya
              have y1 := zZ k (by rw [HG.out.len]; omega)
              rw [Nat.zero_add] at y1
              have yf : wq.frozen? ⟨pk, k, none⟩ = false := by
               obtain ⟨_, _, e, _, hbk⟩ := Ep.out.shape
               injection e with e1 _ _
               subst e1
               obtain ⟨_, eg, _, _, _, hfr⟩ := hbk (by rw [HG.out.len]; omega)
               cases eg
               exact hfr k
              have ai0 := Kq.out.size
              clear zZ hHd
              refine aG (i := 11) (by kernel_rfl) rfl (fun K hK => ?_)
              go_simp
              refine hK.out _ _ (fun h => absurd h (by decide)) (fun _ => ?_)
              clear hK K
              try simp only [Act.put, g1, g2, g3]
              refine dA (by kernel_rfl) ?_ _
              obtain ⟨wn, hwn⟩ : ∃ y, y = wq.setCell ⟨pk, k, none⟩ (.int .i64 z) := ⟨_, rfl⟩
              rw [← hwn]
              have qG : Only (fun g => g = pk) wq wn := by rw [hwn]; exact (Only.refl (fun g => g = pk) wq).setCell (p := ⟨pk, k, none⟩) rfl _
              have vI : Hid (aF wn w5.heap.size w6.heap.size (.slice (some ⟨pk, 0, none⟩) Pk.length pc) (bD ah O P Pk (k + 1))) := by
               rw [hwn, HST.out]
               exact Ep.out.store (by rw [HG.out.len]; omega) (by rw [HG.out.len]; omega) Yd.out
              have Yg := Lib.hid (Yf.out.only qG (by omega))
              have Yh := Lib.hid (KJ.out.only qG (fun g hg h => by have := (KJ.out.own.lt g hg).1; omega)).bg
              have lY := Lib.hid (Eo.out.only qG (by omega) (by omega) (by omega) (by omega))
              have yg : Hid (Only (fun x => x = a7 ∨ x = pk ∨ x = nb ∨ x = pb ∨ x = kb ∨ wT.heap.size ≤ x) wT wn) := (zo.out.trans (Kq.out.mono fun g hg => by omega)).trans (qG.mono fun g hg => by omega)
              clear hwn qG y1 yf
              go_wp2
              go_roundw
              case rel => exact ⟨k + 1, .slice xa xn xc, by omega, by go_num, Yg, Yh, vI, lY, yg⟩
              case measure => simp [intOf]; omega
            · have oQ : bD ah O P Pk (k + 1) = bD ah O P Pk k := Gp (.inl (by
               rw [HG.out.rest k (Nat.le_refl _) (by omega)]
               rcases zT.out.2 k (by omega) with h | h
               · exact absurd h hpm
               · exact (jL KE.out).pos (by omega) _ h))
              have vI : Hid (aF wm w5.heap.size w6.heap.size (.slice (some ⟨pk, 0, none⟩) Pk.length pc) (bD ah O P Pk (k + 1))) := by rw [oQ]; exact Em.out
              have lY : Hid (nV ah O P b O.length nb pb kb (dB O O.length) (dB P O.length) (bD ah O P Pk (k + 1)) wm) := by rw [oQ]; exact En.out
              have hb1 : (nth Pk k == -1) = false := beq_eq_false_iff_ne.2 hpm
              clear oQ hpm how
              go_wp2
              go_roundw
              case rel => exact ⟨k + 1, .slice xa xn xc, by omega, by go_num, zl, zn, vI, lY, zo⟩
              case measure => simp [intOf]; omega
          · have oQ : bD ah O P Pk (k + 1) = bD ah O P Pk k := Gp (.inr (by rw [iK.out]; exact fun h => how h.symm))
            have vI : Hid (aF wm w5.heap.size w6.heap.size (.slice (some ⟨pk, 0, none⟩) Pk.length pc) (bD ah O P Pk (k + 1))) := by rw [oQ]; exact Em.out
            have lY : Hid (nV ah O P b O.length nb pb kb (dB O O.length) (dB P O.length) (bD ah O P Pk (k + 1)) wm) := by rw [oQ]; exact En.out
            have hb1 : ((1 : Int) == nth O k) = false := beq_eq_false_iff_ne.2 fun h => how h.symm
            clear oQ how
            go_wp2
            go_roundw
            case rel => exact ⟨k + 1, .slice xa xn xc, by omega, by go_num, zl, zn, vI, lY, zo⟩
            case measure => simp [intOf]; omega
      · have hke : k = O.length := by omega
        have hi1 : ¬ (k : Int) < (O.length : Int) := by omega
        subst hke
        obtain ⟨xa, xn, xc, hxs⟩ : ∃ a n c, vx = .slice a n c := by
         obtain ⟨a, c, h⟩ := HX.out.shape2
         exact ⟨_, _, _, h⟩
        subst hxs
        have a0 := HA.out.cell0
        have a1 := HA.out.cell1
        have d0 := RW.out.cell0
        have d1 := RW.out.cell1
        have g0 := RW.out.frozen 0
        have g1 := RW.out.frozen 1
        have hfin : Hid (∀ A B : Value, aF ((wr.setCell ⟨w.heap.size + 1, 0, none⟩ A).setCell ⟨w.heap.size + 1, 1, none⟩ B) w.heap.size ((wr.setCell ⟨w.heap.size + 1, 0, none⟩ A).setCell ⟨w.heap.size + 1, 1, none⟩ B).heap.size (.slice xa xn xc) X ∧ aF ((wr.setCell ⟨w.heap.size + 1, 0, none⟩ A).setCell ⟨w.heap.size + 1, 1, none⟩ B) w.heap.size ((wr.setCell ⟨w.heap.size + 1, 0, none⟩ A).setCell ⟨w.heap.size + 1, 1, none⟩ B).heap.size (.slice (some ⟨pk, 0, none⟩) Pk.length pc) Y ∧ Below w.heap.size w ((wr.setCell ⟨w.heap.size + 1, 0, none⟩ A).setCell ⟨w.heap.size + 1, 1, none⟩ B)) := fun A B => by
         have ho : Only (fun g => g = w.heap.size + 1) wr ((wr.setCell ⟨w.heap.size + 1, 0, none⟩ A).setCell ⟨w.heap.size + 1, 1, none⟩ B) := ((Only.refl (fun g => g = w.heap.size + 1) wr).setCell (p := ⟨w.heap.size + 1, 0, none⟩) rfl _).setCell (p := ⟨w.heap.size + 1, 1, none⟩) rfl _
         have hx := HX.out
         rw [Ya.out] at hx
         rw [show (dJ ah O P).take O.length = dJ ah O P from List.take_of_length_le (by rw [yh]; omega)] at hx
         have hy := HY.out
         rw [← HZ.out] at hy
         rw [HE.out.1, HE.out.2.1]
         refine ⟨((hx.only ho fun g hg e => by have := (hx.own.lt g hg).1; omega).bg).base (by omega), ((hy.only ho fun g hg e => by simp [Value.ownBlock] at hg; omega).bg).base (by omega), ?_⟩
         exact ((Only.of_below (S := fun g => w.heap.size ≤ g) BW.out).trans (ho.mono fun g hg => by omega)).below (Nat.le_refl _) (fun k h => h)
        have ai1 : Hid (∀ g, (Value.slice xa xn xc).ownBlock = some g → (Value.slice (some ⟨pk, 0, none⟩) Pk.length pc).ownBlock ≠ some g) := fun g hg h => by
         have := (HX.out.own.lt g hg).1
         simp [Value.ownBlock] at h
         omega
        go_wp2
        exact bodyPost_ret (v := .tuple #[.agg #[.slice xa xn xc, .slice (some ⟨pk, 0, none⟩) Pk.length pc], .bool true]) (by simp [results, Tryd.results17, go_sem, d0, d1]) rfl
         ⟨_, _, by rw [HE.out.2.2], (hfin.out _ _).1, (hfin.out _ _).2.1, ai1.out, (hfin.out _ _).2.2⟩
end
end Go.Proofs.YtglbkbiphcgidaaDoor
