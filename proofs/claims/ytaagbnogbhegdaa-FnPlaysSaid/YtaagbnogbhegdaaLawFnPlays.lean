/-
  The walk of the law FnPlays.
-/
import Derived.Test.YtaagbnogbhegdaaPlayTrue
import Derived.Test.YtaagbnogbhegdaaPlayImpl
import Derived.Test.YtaagbnogbhegdaaFixedImpl
import Derived.Test.YtaagbnogbhegdaaWonImpl
import Derived.Test.YtaagbnogbhegdaaGame
import Derived.Test.YtaagbnogbhegdaaAppendAny
import Derived.Test.YtaagbnogbhegdaaKitGame
import Derived.Deep.RegionHeld3
namespace Go.Proofs.Ytaagbnogbhegdaa
open Go.RowKit

theorem OwnInts.keepsP {w : World} {B D p : Nat} {v : Value} {zs : List Int} (h : OwnInts w B D v zs) (hp : p < B) : ∃ a c, v = .slice a zs.length c ∧ ∀ W', Only (fun b => b = p) w W' → IntsAt W' a zs := by
  obtain ⟨a, c, hv, _⟩ := h.shape
  refine ⟨a, c, hv, fun W' ho => ?_⟩
  obtain ⟨a', c', hv', hi, _⟩ := (h.only ho (fun g hg e => by have := (h.own.lt g hg).1; omega)).shape
  rw [hv] at hv'
  cases hv'
  exact hi
theorem OwnRows.keepsP {w : World} {B D p : Nat} {v : Value} {V : Nat → Value} {zss : List (List Int)} (h : OwnRows w B D v V zss) (hp : p < B) : ∃ a c, v = .slice a zss.length c ∧ ∀ W', Only (fun b => b = p) w W' → RowsAt W' a (fun k => addrOf (V k)) (fun k => capOf (V k)) zss := by
  obtain ⟨a, c, hv, _⟩ := h.shape
  refine ⟨a, c, hv, fun W' ho => ?_⟩
  obtain ⟨a', c', hv', hi, _⟩ := (h.only ho (fun g hg e => by have := (h.own.lt g hg).1; omega) (fun k hk g hg e => by have := ((h.rows k hk).own.lt g hg).1; omega)).shape
  rw [hv] at hv'
  cases hv'
  exact hi

set_option maxHeartbeats 16000000 in
set_option maxRecDepth 100000 in
theorem lawFnPlays {w : World} {ab : Option Addr} {cb : Nat} {bs : List Int} (hby : BytesAt w ab bs) :
    Calls Try.prog 4 #[.slice ab bs.length cb] w fun e w' => e = .returned (.bool true) ∧ Below w.heap.size w w' := by
  have HY := Lib.hid hby
  have hbl := hby.len
  clear hby
  by_cases hbig : 4096 < (bs.length : Int)
  · have HG := Lib.hid (big_is (w := w) (ab := ab) (cb := cb) (decide_eq_true hbig))
    clear hbig
    go_enter Try.func4, Try.ntmps4
    go_wp2_with (go_at_call 14; refine HG.out.mono ?_; rintro e w' ⟨rfl, rfl⟩)
    go_ret
    exact ⟨rfl, Below.refl _ _⟩
  have HG := Lib.hid (big_is (w := w) (ab := ab) (cb := cb) (decide_eq_false hbig))
  have HRo := Lib.hid (roll_is (cb := cb) (s := 605) HY.out (by omega))
  clear hbig HY
  go_enter Try.func4, Try.ntmps4
  go_wp2_with fail
  refine HG.out.mono ?_
  rintro e w' ⟨rfl, rfl⟩
  go_wp2_with fail
  refine HRo.out.mono ?_
  rintro e w1 ⟨h1, rfl, hd1, hb⟩
  have B1 := Lib.hid hb
  have hp1 := hd1.lt
  have HGa := Lib.hid (w5Game_is (most := 9) hd1 (by omega) (by omega))
  clear hd1 hb HG HRo
  go_wp2_with fail
  refine HGa.out.mono ?_
  rintro e w2 ⟨vo, vn, vp, O, zss, P, rfl, ⟨vo', vn', V, hv, ho1, ho2, -⟩, ho3, hAP, hmost, hlP, hPB, hdin⟩
  simp only [Value.agg.injEq, Array.mk.injEq, List.cons.injEq, and_true] at hv
  obtain ⟨rfl, rfl⟩ := hv
  obtain ⟨ao, co, hvo, hao⟩ := ho1.keepsP hp1
  obtain ⟨an, cn, hvn, han⟩ := ho2.keepsP hp1
  obtain ⟨ap, cp, hvp, hap⟩ := ho3.keepsP hp1
  subst hvo
  subst hvn
  subst hvp
  have HAO := Lib.hid hao
  have HAN := Lib.hid han
  have HPO := Lib.hid hap
  have HAP := Lib.hid hAP
  have hO9 : O.length ≤ 9 := by omega
  have hO1 : 1 ≤ O.length := hAP.1
  have HZO : Hid (zss.length = O.length) := hAP.2.2.1
  have HPL := Lib.hid hlP
  have hP1 : (0 : Int) < (P.length : Int) := by omega
  have HPV : Hid (parityB O zss P = true) := parityB_iff.2 ⟨hAP, hlP, fun x hx => by have := hPB x hx; omega⟩
  obtain ⟨j2, h2, hd2⟩ := hdin.cur
  have hs2 : w1.heap.size ≤ w2.heap.size := hdin.only.size
  obtain ⟨w3, hw3⟩ : ∃ y, y = w2.alloc (.cells #[.slice ao O.length co, .slice an zss.length cn, .slice ap P.length cp] 38) := ⟨_, rfl⟩
  have HW3 := Lib.hid hw3
  have hb3 : Below w2.heap.size w2 w3 := by rw [hw3]; exact below1 _ _
  have hs3 : w3.heap.size = w2.heap.size + 1 := by rw [hw3]; simp
  have HS3 := Lib.hid hs3
  have T_3 : Hid (Box3 w3 w2.heap.size 38 (.slice ao O.length co) (.slice an zss.length cn) (.slice ap P.length cp)) := by rw [hw3]; exact Box3.new _ _ _ _ _
  have C1_3 := Lib.hid (hdin.only.trans (Only.of_below hb3))
  have C2_3 : Hid (Only (fun b => b = w.heap.size) w2 w3) := Only.of_below hb3
  have D_3 := Lib.hid (hd2.below hb3)
  have hp3 := D_3.out.lt
  have c0 := T_3.out.c0
  have c1 := T_3.out.c1
  rw [hw3] at c0 c1
  have HRW : Hid (∀ k, k < O.length → 0 < (row zss k).length ∧ (row zss k).length ≤ 1048576) := fun k hk => by
    have := (HAP.out.2.2.2 k hk).2
    omega
  have HQ0 := Lib.hid (w5Plan_is (co := co) (cn := cn) (who := 0) D_3.out (fun W' ho => ⟨HAO.out W' (C2_3.out.trans ho), HAN.out W' (C2_3.out.trans ho)⟩) HZO.out (by omega) HRW.out)
  clear hd2 hdin ho1 ho2 ho3 hao han hap hAP hw3 hb3 hs3 HGa hPB hlP hmost
  go_wp2_with fail
  rw [← HW3.out]
  refine HQ0.out.mono ?_
  rintro e w4 ⟨qv, F0, rfl, hqo, hqp, hdin⟩
  obtain ⟨E, hE⟩ : ∃ E, E = fnL O.length F0 := ⟨_, rfl⟩
  have HFE : Hid (fullB O zss 0 E = true) := by rw [hE]; exact full_of HAP.out (by omega) hqp
  rw [← hE] at hqo
  obtain ⟨ea, ec, hqv, hqk⟩ := hqo.keepsP hp3
  subst hqv
  have HEK := Lib.hid hqk
  obtain ⟨j4, h4, hd4⟩ := hdin.cur
  have ho := hdin.only
  have hs4 : w3.heap.size ≤ w4.heap.size := ho.size
  have C1_4 := Lib.hid (C1_3.out.trans ho)
  have C2_4 := Lib.hid (C2_3.out.trans ho)
  have T_4 := Lib.hid (Box3.only T_3.out ho (by omega))
  have C4_4 : Hid (Only (fun b => b = w.heap.size) w4 w4) := Only.refl _ _
  have D_4 := Lib.hid hd4
  have hp4 := D_4.out.lt
  clear hd4 ho hdin hqo hqp hqk hE HQ0 c0 c1 C1_3 C2_3 T_3 D_3 HW3
  have c0 := T_4.out.c0
  have c1 := T_4.out.c1
  have HQ1 := Lib.hid (w5Plan_is (co := co) (cn := cn) (who := 1) D_4.out (fun W' ho => ⟨HAO.out W' (C2_4.out.trans ho), HAN.out W' (C2_4.out.trans ho)⟩) HZO.out (by omega) HRW.out)
  go_wp2_with fail
  refine HQ1.out.mono ?_
  rintro e w5 ⟨qv, F1, rfl, hqo, hqp, hdin⟩
  obtain ⟨D, hD⟩ : ∃ D, D = fnL O.length F1 := ⟨_, rfl⟩
  have HFD : Hid (fullB O zss 1 D = true) := by rw [hD]; exact full_of HAP.out (by omega) hqp
  rw [← hD] at hqo
  obtain ⟨da, dc, hqv, hqk⟩ := hqo.keepsP hp4
  subst hqv
  have HDK := Lib.hid hqk
  obtain ⟨j5, h5, hd5⟩ := hdin.cur
  have ho := hdin.only
  have hs5 : w4.heap.size ≤ w5.heap.size := ho.size
  have C1_5 := Lib.hid (C1_4.out.trans ho)
  have C2_5 := Lib.hid (C2_4.out.trans ho)
  have C4_5 := Lib.hid (C4_4.out.trans ho)
  have T_5 := Lib.hid (Box3.only T_4.out ho (by omega))
  have D_5 := Lib.hid hd5
  clear hd5 ho hdin hqo hqp hqk hD HQ1 c0 c1 C1_4 C2_4 C4_4 T_4 D_4
  have c2 := T_5.out.c2
  go_wp2_with fail
  refine (below_is (n := (P.length : Int)) (hi := (P.length : Int) - 1) D_5.out hP1 rfl (by have := HPL.out; omega)).mono ?_
  rintro e w6 ⟨v, j6, h6, rfl, hx0, hx1, hdn, ho⟩
  have hs6 : w5.heap.size ≤ w6.heap.size := ho.size
  have hv : 0 ≤ v ∧ v < O.length := by have := HPL.out; omega
  have HV := Lib.hid hv
  have C1_6 := Lib.hid (C1_5.out.trans ho)
  have C2_6 := Lib.hid (C2_5.out.trans ho)
  have C4_6 := Lib.hid (C4_5.out.trans ho)
  have T6 := Lib.hid (Box3.only T_5.out ho (by omega))
  have B6 : Hid (Below w.heap.size w w6) := B1.out.trans (C1_6.out.below (B := w.heap.size) B1.out.size (fun b hb => by omega))
  have HAt : Hid (∀ W, Below w6.heap.size w6 W → ArenaAt W (.agg #[.slice ao O.length co, .slice an zss.length cn]) O zss) := fun W hb =>
    ⟨_, _, _, _, _, _, rfl, HAO.out _ (C2_6.out.trans (Only.of_below hb)), HAN.out _ (C2_6.out.trans (Only.of_below hb))⟩
  have HGt : Hid (∀ W, Below w6.heap.size w6 W → GameAt W (.agg #[.slice ao O.length co, .slice an zss.length cn, .slice ap P.length cp]) O zss P) := fun W hb =>
    ⟨_, _, _, _, _, _, _, _, rfl, HAO.out _ (C2_6.out.trans (Only.of_below hb)), HAN.out _ (C2_6.out.trans (Only.of_below hb)), HPO.out _ (C2_6.out.trans (Only.of_below hb))⟩
  have HEt : Hid (∀ W, Below w6.heap.size w6 W → IntsAt W ea E) := fun W hb => HEK.out _ (C4_6.out.trans (Only.of_below hb))
  have HDt : Hid (∀ W, Below w6.heap.size w6 W → IntsAt W da D) := fun W hb => HDK.out _ (Only.trans ho (Only.of_below hb))
  clear hdn ho hx0 hx1 c2 C1_5 C2_5 C4_5 T_5 D_5 C1_6 C2_6 C4_6 HAO HAN HPO HEK HDK HRW hv B1
  -- the play
  obtain ⟨X, hX⟩ : ∃ X, playX O zss E D v = X := ⟨_, rfl⟩
  obtain ⟨Y, hY⟩ : ∃ Y, playY O zss E D v = Y := ⟨_, rfl⟩
  have hpb : playB O zss E D v = true := by unfold playB thereB; rw [HFE.out, HFD.out]; simpa using HV.out
  obtain ⟨hkn, hkm⟩ := play_meets HFE.out HFD.out HV.out
  obtain ⟨hik, hie⟩ := play_index HFE.out HFD.out HV.out
  obtain ⟨hxy, _, hlx, hly⟩ := play_whole HFE.out HFD.out HV.out
  have hPE := (fullB_iff.1 HFE.out).1.2.2
  have hPD := (fullB_iff.1 HFD.out).1.2.2
  have hAx : ArenaP O (fixK zss E zss.length) := fix_valid HAP.out hPE
  have hPx : PlanP O (fixK zss E zss.length) 1 D := fix_plan HAP.out (by omega) hPE hPD
  have hAy : ArenaP O (fixK (fixK zss E zss.length) D (fixK zss E zss.length).length) := fix_valid hAx hPx
  have hL1 := play_lasso (zss' := zss) HFE.out HFD.out HV.out HAP.out (fun u hu => (step_in HFE.out HFD.out hu).2.2)
  have hL2 := play_lasso (zss' := fixK (fixK zss E zss.length) D (fixK zss E zss.length).length) HFE.out HFD.out HV.out hAy (fun u hu => step_fixed HFE.out HFD.out hu)
  rw [hX, hY] at hxy hL1 hL2
  rw [hX] at hlx
  rw [hY] at hly
  have HL1 := Lib.hid hL1
  have HL2 := Lib.hid hL2
  have hlen : X.length + Y.length ≤ 9 := by omega
  have hlen1 : 1 ≤ X.length + Y.length := by omega
  have HLN : Hid (X.length + Y.length ≤ P.length) := by have := HPL.out; unfold Hid; omega
  have HFirst : Hid (nth (X ++ Y) 0 = v) := by
    rw [hxy, metK_nth (show 0 < playK O E D v by omega)]; rfl
  have HPx : Hid (planB O zss 0 E = true) := planB_iff.2 ⟨HAP.out, by omega, hPE⟩
  have HPd : Hid (planB O zss 1 D = true) := planB_iff.2 ⟨HAP.out, by omega, hPD⟩
  have HPy : Hid (planB O (fixK zss E zss.length) 1 D = true) := planB_iff.2 ⟨hAx, by omega, hPx⟩
  have HPlay := Lib.hid (PlayOf_is ec dc (r := true) ⟨hX, hY, hpb⟩ (HAt.out _ (Below.refl _ _)) (HEt.out _ (Below.refl _ _)) (HDt.out _ (Below.refl _ _)))
  clear hX hY hpb hkn hkm hik hie hxy hlx hly hPE hPD hAx hPx hAy hL1 hL2
  have c0 := T6.out.c0
  have c1 := T6.out.c1
  go_wp2_with fail
  refine HPlay.out.mono ?_
  rintro e w7 ⟨x, rfl, hx, hb⟩
  obtain ⟨xa, xc, ya, yc, hus⟩ := hx.shape
  subst hus
  obtain ⟨w8, hw8⟩ : ∃ y, y = w7.alloc (.cells #[.slice xa X.length xc, .slice ya Y.length yc] 43) := ⟨_, rfl⟩
  have HW8 := Lib.hid hw8
  have hb78 : Below w7.heap.size w7 w8 := by rw [hw8]; exact below1 _ _
  have K8 := Lib.hid (hb.trans (hb78.mono hb.size))
  have B8 := Lib.hid (B6.out.trans (K8.out.mono B6.out.size))
  have T8 := Lib.hid (T6.out.below K8.out)
  have L8 := Lib.hid (hx.below hb78).atC
  have R8 : Hid (Box2 w8 w7.heap.size 43 (.slice xa X.length xc) (.slice ya Y.length yc)) := by rw [hw8]; exact Box2.new _ _ _ _
  clear c0 c1
  have c0 := T8.out.c0
  have c1 := T8.out.c1
  have r0 := R8.out.cell0
  have r1 := R8.out.cell1
  rw [hw8] at c0 c1 r0 r1
  clear hx hb hw8 hb78 HPlay
  go_wp2_with fail
  rw [← HW8.out]
  refine (LassoOk_is HL1.out (HAt.out _ K8.out) L8.out).mono ?_
  rintro e w9 ⟨rfl, hb⟩
  have K9 := Lib.hid (K8.out.trans (hb.mono K8.out.size))
  have B9 := Lib.hid (B8.out.trans (hb.mono B8.out.size))
  have T9 := Lib.hid (T8.out.below hb)
  have L9 := Lib.hid (L8.out.below hb)
  have R9 := Lib.hid (R8.out.below hb)
  clear c0 c1 r0 r1 hb
  have c0 := T9.out.c0
  have c1 := T9.out.c1
  have r0 := R9.out.cell0
  have r1 := R9.out.cell1
  go_wp2_with fail
  refine (specLassoOk_is HL1.out (HAt.out _ K9.out) L9.out.at).mono ?_
  rintro e w10 ⟨rfl, hb⟩
  have K10 := Lib.hid (K9.out.trans (hb.mono K9.out.size))
  have B10 := Lib.hid (B9.out.trans (hb.mono B9.out.size))
  have T10 := Lib.hid (T9.out.below hb)
  have L10 := Lib.hid (L9.out.below hb)
  have R10 := Lib.hid (R9.out.below hb)
  clear c0 c1 r0 r1 hb
  -- the visited vertices, one behind the other
  have Kd : Hid (Below w10.heap.size w10 w10.drew) := (Below.refl _ _).drew
  have hds : w10.drew.heap.size = w10.heap.size := rfl
  have Ka : Hid (Below w10.heap.size w10 (w10.drew.alloc (.cells #[] 2))) := Kd.out.alloc Kd.out.size _
  have O0 : Hid ((w10.drew.alloc (.cells #[] 2)).ownsRow w10.heap.size 2 1 (.slice (some ⟨w10.heap.size, 0, none⟩) 0 0) 0 []) := World.ownsRow_made w10.drew #[] 0 (Nat.le_refl _) (by unfold maxLen; omega) rfl
  have HLx : Hid (∀ W, Below w10.heap.size w10 W → IntsAt W xa X ∧ IntsAt W ya Y) := fun W hb => by
    obtain ⟨a1, a2, a3, a4, hv, g1, g2, _⟩ := L10.out.below hb
    simp only [Value.agg.injEq, Array.mk.injEq, List.cons.injEq, Value.slice.injEq, and_true] at hv
    obtain ⟨⟨rfl, _, _⟩, rfl, _, _⟩ := hv
    exact ⟨g1, g2⟩
  have HSc : Hid (∀ W, Below w10.heap.size w10 W → W.cell? ⟨w7.heap.size, 0, none⟩ = some (.slice xa X.length xc) ∧ W.cell? ⟨w7.heap.size, 1, none⟩ = some (.slice ya Y.length yc)) := fun W hb => ⟨(R10.out.below hb).cell0, (R10.out.below hb).cell1⟩
  have s0 := HSc.out _ Kd.out
  go_wp2
  go_region_held3 (fun W => W.cell? ⟨w7.heap.size, 0, none⟩ = some (.slice xa X.length xc) ∧ W.cell? ⟨w7.heap.size, 1, none⟩ = some (.slice ya Y.length yc))
    (first
      | exact HSc.out _ Kd.out
      | exact HSc.out _ Ka.out
      | exact HSc.out _ Kx.out
      | exact HSc.out _ Ky.out)
    (first
      | (have _t := tX; refine step_append_any (by rfl) _ _ (by rfl) w10.heap.size vx (0 + X.length) ([] ++ X.map (Value.int .i64)) (by rfl) OX.out ya Y yc (by rfl) (HLx.out _ Kx.out).2 (by unfold maxLen; omega) (by omega) Kx.out.size ?_; intro vy wy hown hgrow; have OY := Lib.hid hown; have Ky := Lib.hid (Kx.out.grown hgrow Kx.out.size (fun g hg => (OX.out.lt g hg).1)); clear hown hgrow tX)
      | (refine step_append_any (by rfl) _ _ (by rfl) w10.heap.size (.slice (some ⟨w10.heap.size, 0, none⟩) 0 0) 0 [] (by rfl) O0.out xa X xc (by rfl) (HLx.out _ Ka.out).1 (by unfold maxLen; omega) (by omega) Ka.out.size ?_; intro vx wx hown hgrow; have OX := Lib.hid hown; have Kx := Lib.hid (Ka.out.grown hgrow Ka.out.size (fun g hg => (O0.out.lt g hg).1)); have tX : True := trivial; clear hown hgrow))
  obtain ⟨gy, cy, hvy, _, _⟩ := OY.out.form (by omega)
  subst hvy
  have q0 : wy.cell? ⟨gy, 0, none⟩ = some (.int .i64 v) := by
    have h := OY.out.cellAt 0 (by omega)
    have hm : [] ++ X.map (Value.int .i64) ++ Y.map (Value.int .i64) = (X ++ Y).map (Value.int .i64) := by simp
    have hl : 0 < (X ++ Y).length := by simp; omega
    rw [h, hm, ← HFirst.out, List.getElem?_map, List.getElem?_eq_getElem hl, nth_eq hl]
    rfl
  obtain ⟨n, hn⟩ : ∃ n, n = 0 + X.length + Y.length := ⟨_, rfl⟩
  rw [← hn]
  have hn0 : (0 : Int) < (n : Int) := by omega
  have hnP : ¬ ((P.length : Int) < (n : Int)) := by have := HLN.out; omega
  have hvv : (v != v) = false := by simp
  have TY := Lib.hid (T10.out.below Ky.out)
  have BY := Lib.hid (B10.out.trans (Ky.out.mono B10.out.size))
  have KY6 := Lib.hid (K10.out.trans (Ky.out.mono K10.out.size))
  have c0 := TY.out.c0
  have c1 := TY.out.c1
  have c2 := TY.out.c2
  obtain ⟨zf, hzf⟩ : ∃ z, z = fixK zss E zss.length := ⟨_, rfl⟩
  obtain ⟨zg, hzg⟩ : ∃ z, z = fixK zf D zf.length := ⟨_, rfl⟩
  have HF1 := Lib.hid (FixedBy_is ec (fO := O) (fN := zf) (r := true) ⟨by unfold fixO; rw [if_pos HPx.out], by unfold fixN; rw [if_pos HPx.out, hzf], HPx.out⟩ (HAt.out _ KY6.out) (HEt.out _ KY6.out))
  rw [← hzf] at HPy HL2
  rw [← hzg] at HL2
  have HF2 : Hid (∀ W va, ArenaAt W va O zf → IntsAt W da D → Calls Try.prog 30 #[va, .int .i64 1, .slice da D.length dc] W (GivesArenaB W O zg true)) := fun W va ha hd =>
    FixedBy_is dc (fO := O) (fN := zg) (r := true) ⟨by unfold fixO; rw [if_pos HPy.out], by unfold fixN; rw [if_pos HPy.out, hzg], HPy.out⟩ ha hd
  clear hn hzf hzg s0 O0 OX OY HSc Kd Ka Kx hds
  go_wp2_with fail
  refine HF1.out.mono ?_
  rintro e w11 ⟨x, rfl, hx, hb⟩
  obtain ⟨fa0, fc0, fa1, fc1, hus⟩ := hx.shape2
  subst hus
  obtain ⟨w12, hw12⟩ : ∃ y, y = w11.alloc (.cells #[.slice fa0 O.length fc0, .slice fa1 zf.length fc1] 27) := ⟨_, rfl⟩
  have HW12 := Lib.hid hw12
  have hb12 : Below w11.heap.size w11 w12 := by rw [hw12]; exact below1 _ _
  have K12 := Lib.hid (Ky.out.trans ((hb.trans (hb12.mono hb.size)).mono Ky.out.size))
  have A12 := Lib.hid (hx.below hb12).at
  have X12 : Hid (Box2 w12 w11.heap.size 27 (.slice fa0 O.length fc0) (.slice fa1 zf.length fc1)) := by rw [hw12]; exact Box2.new _ _ _ _
  clear c0 c1 c2 q0
  have c0 := X12.out.cell0
  have c1 := X12.out.cell1
  rw [hw12] at c0 c1
  have K126 := Lib.hid (K10.out.trans (K12.out.mono K10.out.size))
  have HF22 := Lib.hid (HF2.out w12 _ A12.out (HDt.out _ K126.out))
  clear hx hb hw12 hb12 HF1 HF2
  go_wp2_with fail
  rw [← HW12.out]
  refine HF22.out.mono ?_
  rintro e w13 ⟨x, rfl, hx, hb⟩
  obtain ⟨ga0, gc0, ga1, gc1, hus⟩ := hx.shape2
  subst hus
  obtain ⟨w14, hw14⟩ : ∃ y, y = w13.alloc (.cells #[.slice ga0 O.length gc0, .slice ga1 zg.length gc1] 27) := ⟨_, rfl⟩
  have HW14 := Lib.hid hw14
  have hb14 : Below w13.heap.size w13 w14 := by rw [hw14]; exact below1 _ _
  have K14 := Lib.hid (K12.out.trans ((hb.trans (hb14.mono hb.size)).mono K12.out.size))
  have A14 := Lib.hid (hx.below hb14).at
  have X14 : Hid (Box2 w14 w13.heap.size 27 (.slice ga0 O.length gc0) (.slice ga1 zg.length gc1)) := by rw [hw14]; exact Box2.new _ _ _ _
  have T14 := Lib.hid (T10.out.below K14.out)
  have R14 := Lib.hid (R10.out.below K14.out)
  have L14 := Lib.hid (L10.out.below K14.out)
  have B14 := Lib.hid (B10.out.trans (K14.out.mono B10.out.size))
  have K146 := Lib.hid (K10.out.trans (K14.out.mono K10.out.size))
  clear hx hb hw14 hb14 c0 c1 HF22
  obtain ⟨ww, hww⟩ : ∃ ww, wonV O zss P X Y = ww := ⟨_, rfl⟩
  have hwe : (ww == ww) = true := by simp
  have HSw : Hid (∀ W, Below w14.heap.size w14 W → W.cell? ⟨w2.heap.size, 0, none⟩ = some (.slice ao O.length co) ∧ W.cell? ⟨w2.heap.size, 1, none⟩ = some (.slice an zss.length cn) ∧ W.cell? ⟨w2.heap.size, 2, none⟩ = some (.slice ap P.length cp) ∧ W.cell? ⟨w7.heap.size, 0, none⟩ = some (.slice xa X.length xc) ∧ W.cell? ⟨w7.heap.size, 1, none⟩ = some (.slice ya Y.length yc) ∧ W.cell? ⟨w13.heap.size, 0, none⟩ = some (.slice ga0 O.length gc0) ∧ W.cell? ⟨w13.heap.size, 1, none⟩ = some (.slice ga1 zg.length gc1)) := fun W hb =>
    ⟨(T14.out.below hb).c0, (T14.out.below hb).c1, (T14.out.below hb).c2, (R14.out.below hb).cell0, (R14.out.below hb).cell1, (X14.out.below hb).cell0, (X14.out.below hb).cell1⟩
  have HC1 : Hid (∀ W, Below w14.heap.size w14 W → Calls Try.prog 28 #[.agg #[.slice ga0 O.length gc0, .slice ga1 zg.length gc1], .agg #[.slice xa X.length xc, .slice ya Y.length yc]] W fun e w' => e = .returned (.bool true) ∧ Below W.heap.size W w') := fun W hb => LassoOk_is HL2.out (A14.out.below hb) (L14.out.below hb)
  have HC2 : Hid (∀ W, Below w14.heap.size w14 W → Calls Try.prog 31 #[.agg #[.slice ao O.length co, .slice an zss.length cn, .slice ap P.length cp], .agg #[.slice xa X.length xc, .slice ya Y.length yc]] W fun e w' => e = .returned (.int .i64 ww) ∧ Below W.heap.size W w') := fun W hb => PlayWon_is hww (HGt.out _ (K146.out.trans (hb.mono K146.out.size))) (L14.out.below hb)
  have HC3 : Hid (∀ W, Below w14.heap.size w14 W → Calls Try.prog 32 #[.agg #[.slice ao O.length co, .slice an zss.length cn, .slice ap P.length cp], .agg #[.slice xa X.length xc, .slice ya Y.length yc]] W fun e w' => e = .returned (.int .i64 ww) ∧ Below W.heap.size W w') := fun W hb => specPlayWon_is hww (HGt.out _ (K146.out.trans (hb.mono K146.out.size))) (L14.out.below hb).at
  have HC4 : Hid (∀ W, Below w14.heap.size w14 W → Calls Try.prog 33 #[.agg #[.slice ao O.length co, .slice an zss.length cn], .int .i64 0, .slice ea E.length ec] W fun e w' => e = .returned (.bool true) ∧ Below W.heap.size W w') := fun W hb => FullIn_is ec HFE.out (HAt.out _ (K146.out.trans (hb.mono K146.out.size))) (HEt.out _ (K146.out.trans (hb.mono K146.out.size)))
  have HC5 : Hid (∀ W, Below w14.heap.size w14 W → Calls Try.prog 34 #[.agg #[.slice ao O.length co, .slice an zss.length cn], .int .i64 1, .slice da D.length dc] W fun e w' => e = .returned (.bool true) ∧ Below W.heap.size W w') := fun W hb => PlanOk_is dc HPd.out (HAt.out _ (K146.out.trans (hb.mono K146.out.size))) (HDt.out _ (K146.out.trans (hb.mono K146.out.size)))
  have Kd : Hid (Below w14.heap.size w14 w14.drew) := (Below.refl _ _).drew
  have s0 := HSw.out _ Kd.out
  clear hww
  go_wp2
  rw [← HW14.out]
  go_region_held3 (fun W => W.cell? ⟨w2.heap.size, 0, none⟩ = some (.slice ao O.length co) ∧ W.cell? ⟨w2.heap.size, 1, none⟩ = some (.slice an zss.length cn) ∧ W.cell? ⟨w2.heap.size, 2, none⟩ = some (.slice ap P.length cp) ∧ W.cell? ⟨w7.heap.size, 0, none⟩ = some (.slice xa X.length xc) ∧ W.cell? ⟨w7.heap.size, 1, none⟩ = some (.slice ya Y.length yc) ∧ W.cell? ⟨w13.heap.size, 0, none⟩ = some (.slice ga0 O.length gc0) ∧ W.cell? ⟨w13.heap.size, 1, none⟩ = some (.slice ga1 zg.length gc1))
    (first
      | exact HSw.out _ Kd.out
      | exact HSw.out _ Kk1.out
      | exact HSw.out _ Kk2.out
      | exact HSw.out _ Kk3.out
      | exact HSw.out _ Kk4.out
      | exact HSw.out _ Kk5.out)
    (first
      | (go_at_call 28; refine (HC1.out _ Kd.out).mono ?_; rintro e wk1 ⟨rfl, hb⟩; have Kk1 := Lib.hid (Kd.out.trans (hb.mono Kd.out.size)); clear hb)
      | (go_at_call 31; refine (HC2.out _ Kk1.out).mono ?_; rintro e wk2 ⟨rfl, hb⟩; have Kk2 := Lib.hid (Kk1.out.trans (hb.mono Kk1.out.size)); clear hb)
      | (go_at_call 32; refine (HC3.out _ Kk2.out).mono ?_; rintro e wk3 ⟨rfl, hb⟩; have Kk3 := Lib.hid (Kk2.out.trans (hb.mono Kk2.out.size)); clear hb)
      | (go_at_call 33; refine (HC4.out _ Kk3.out).mono ?_; rintro e wk4 ⟨rfl, hb⟩; have Kk4 := Lib.hid (Kk3.out.trans (hb.mono Kk3.out.size)); clear hb)
      | (go_at_call 34; refine (HC5.out _ Kk4.out).mono ?_; rintro e wk5 ⟨rfl, hb⟩; have Kk5 := Lib.hid (Kk4.out.trans (hb.mono Kk4.out.size)); clear hb))
  go_wp2
  go_ret
  exact ⟨rfl, B14.out.trans (Kk5.out.mono B14.out.size)⟩

end Go.Proofs.Ytaagbnogbhegdaa
