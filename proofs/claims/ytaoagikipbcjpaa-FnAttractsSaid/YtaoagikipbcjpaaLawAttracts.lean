/-
  The walk of the law FnAttracts.
-/
import Derived.Test.YtaoagikipbcjpaaGame
import Derived.Test.YtaoagikipbcjpaaForceMath
import Derived.Test.YtaoagikipbcjpaaAttractImpl
import Derived.Test.YtaoagikipbcjpaaPullImpl
import Derived.Test.YtaoagikipbcjpaaDrawTwo
import Derived.Deep.RegionHeld3
namespace Go.Proofs.Ytaoagikipbcjpaa
open Go.RowKit

theorem OwnInts.keeps {w : World} {B D p : Nat} {v : Value} {zs : List Int} (h : OwnInts w B D v zs) (hp : p < B) : ∃ a c, v = .slice a zs.length c ∧ ∀ W', Only (fun b => b = p) w W' → IntsAt W' a zs := by
  obtain ⟨a, c, hv, _⟩ := h.shape
  refine ⟨a, c, hv, fun W' ho => ?_⟩
  obtain ⟨a', c', hv', hi, _⟩ := (h.only ho (fun g hg e => by have := (h.own.lt g hg).1; omega)).shape
  rw [hv] at hv'
  cases hv'
  exact hi
theorem OwnRows.keeps {w : World} {B D p : Nat} {v : Value} {V : Nat → Value} {zss : List (List Int)} (h : OwnRows w B D v V zss) (hp : p < B) : ∃ a c, v = .slice a zss.length c ∧ ∀ W', Only (fun b => b = p) w W' → RowsAt W' a (fun k => addrOf (V k)) (fun k => capOf (V k)) zss := by
  obtain ⟨a, c, hv, _⟩ := h.shape
  refine ⟨a, c, hv, fun W' ho => ?_⟩
  obtain ⟨a', c', hv', hi, _⟩ := (h.only ho (fun g hg e => by have := (h.own.lt g hg).1; omega) (fun k hk g hg e => by have := ((h.rows k hk).own.lt g hg).1; omega)).shape
  rw [hv] at hv'
  cases hv'
  exact hi

theorem hasIn_now {w : World} {a : Option Addr} {zs : List Int} {n : Int} {r : Bool} (hr : hasIn zs n = r) (cap : Nat) (h : IntsAt w a zs) :
    Calls Try.prog 15 #[.slice a zs.length cap, .int .i64 n] w fun e w' => e = .returned (.bool r) ∧ Below w.heap.size w w' :=
  (specHasIn_is hr cap h).mono fun _ _ ⟨he, hq⟩ => ⟨he, below_same (Below.refl _ _) hq⟩

set_option maxHeartbeats 8000000 in
set_option maxRecDepth 100000 in
theorem lawAttracts {w : World} {ab : Option Addr} {cb : Nat} {bs : List Int} (hby : BytesAt w ab bs) :
    Calls Try.prog 3 #[.slice ab bs.length cb] w fun e w' => e = .returned (.bool true) ∧ Below w.heap.size w w' := by
  have HY := Lib.hid hby
  clear hby
  by_cases hbig : 4096 < (bs.length : Int)
  · have HG := Lib.hid (big_is (w := w) (ab := ab) (cb := cb) (decide_eq_true hbig))
    clear hbig
    go_enter Try.func3, Try.ntmps3
    go_wp2_with (go_at_call 4; refine HG.out.mono ?_; rintro e w' ⟨rfl, rfl⟩)
    go_ret
    exact ⟨rfl, Below.refl _ _⟩
  have HG := Lib.hid (big_is (w := w) (ab := ab) (cb := cb) (decide_eq_false hbig))
  have HRo := Lib.hid (roll_is (cb := cb) (s := 603) HY.out (by omega))
  clear hbig HY
  go_enter Try.func3, Try.ntmps3
  go_wp2_with fail
  refine HG.out.mono ?_
  rintro e w' ⟨rfl, rfl⟩
  go_wp2_with fail
  refine HRo.out.mono ?_
  rintro e w1 ⟨h1, rfl, hd1, hb⟩
  have B1 := Lib.hid hb
  have hp1 := hd1.lt
  have HGa := Lib.hid (w5Game_is (most := 9) hd1 (by omega) (by omega))
  clear hd1 hb HG HRo
  go_wp2_with fail
  refine HGa.out.mono ?_
  rintro e w2 ⟨vo, vn, vp, O, zss, Pr, rfl, ⟨vo', vn', V, hv, ho1, ho2, -⟩, ho3, hAP, hmost, -, -, hdin⟩
  simp only [Value.agg.injEq, Array.mk.injEq, List.cons.injEq, and_true] at hv
  obtain ⟨rfl, rfl⟩ := hv
  obtain ⟨ao, co, hvo, hao⟩ := ho1.keeps hp1
  obtain ⟨an, cn, hvn, han⟩ := ho2.keeps hp1
  obtain ⟨ap, cp, hvp, -⟩ := ho3.keeps hp1
  subst hvo
  subst hvn
  subst hvp
  have HAO := Lib.hid hao
  have HAN := Lib.hid han
  have HAP := Lib.hid hAP
  have hO9 : O.length ≤ 9 := by omega
  have hO1 : 1 ≤ O.length := hAP.1
  have hzO : zss.length = O.length := hAP.2.2.1
  obtain ⟨j2, h2, hd2⟩ := hdin.cur
  have hs2 : w1.heap.size ≤ w2.heap.size := hdin.only.size
  obtain ⟨w3, hw3⟩ : ∃ y, y = w2.alloc (.cells #[.slice ao O.length co, .slice an zss.length cn, .slice ap Pr.length cp] 32) := ⟨_, rfl⟩
  obtain ⟨w4, hw4⟩ : ∃ y, y = w3.alloc (.cells #[.slice ao O.length co, .slice an zss.length cn] 30) := ⟨_, rfl⟩
  have hb3 : Below w2.heap.size w2 w3 := by rw [hw3]; exact below1 _ _
  have hb4 : Below w3.heap.size w3 w4 := by rw [hw4]; exact below1 _ _
  have hs3 : w3.heap.size = w2.heap.size + 1 := by rw [hw3]; simp
  have hs4 : w4.heap.size = w3.heap.size + 1 := by rw [hw4]; simp
  have T_4 : Hid (Box2 w4 (w2.heap.size + 1) 30 (.slice ao O.length co) (.slice an zss.length cn)) := by rw [← hs3, hw4]; exact Box2.new _ _ _ _
  have HZO := Lib.hid hzO
  have C1_4 := Lib.hid ((hdin.only.trans (Only.of_below hb3)).trans (Only.of_below hb4))
  have C2_4 : Hid (Only (fun b => b = w.heap.size) w2 w4) := Only.trans (Only.of_below hb3) (Only.of_below hb4)
  have D_4 := Lib.hid ((hd2.below hb3).below hb4)
  have HW3 := Lib.hid hw3
  have HW4 := Lib.hid hw4
  clear hw3 hw4 hb3 hb4 hd2 hdin ho1 ho2 ho3 hao han hAP HGa hzO
  go_wp2_with fail
  rw [← HW3.out, ← HW4.out]
  clear HW3 HW4
  refine (below_is (hi := 1) D_4.out (by omega) (by omega) (by omega)).mono ?_
  rintro e w5 ⟨n0, j5, h5, rfl, hx0, hx1, hdn, ho⟩
  have hs5 : w4.heap.size ≤ w5.heap.size := ho.size
  have hw01 : n0 = 0 ∨ n0 = 1 := by omega
  have HW01 := Lib.hid hw01
  clear hw01
  have C1_5 := Lib.hid (C1_4.out.trans ho)
  have C2_5 := Lib.hid (C2_4.out.trans ho)
  have T_5 := Lib.hid (T_4.out.only ho (by omega))
  have D_5 := Lib.hid hdn
  clear C1_4 C2_4 T_4 D_4
  clear hdn ho
  have hp5 := D_5.out.lt
  have HSe := Lib.hid (w5Set_is (n := O.length) D_5.out (by omega))
  go_wp2_with fail
  refine HSe.out.mono ?_
  rintro e w6 ⟨gv, G, rfl, hgo, hgu, hdin⟩
  obtain ⟨ga, gc, hgv, hgk⟩ := hgo.keeps hp5
  subst hgv
  have HG := Lib.hid hgk
  obtain ⟨j6, h6, hdn⟩ := hdin.cur
  have ho := hdin.only
  have C1_6 := Lib.hid (C1_5.out.trans ho)
  have C2_6 := Lib.hid (C2_5.out.trans ho)
  have T_6 := Lib.hid (T_5.out.only ho (by omega))
  have D_6 := Lib.hid hdn
  clear C1_5 C2_5 T_5 D_5
  have C6_6 : Hid (Only (fun b => b = w.heap.size) w6 w6) := Only.refl _ _
  obtain ⟨F, P, S, R, hf⟩ := force_is HAP.out HW01.out hgu
  have HF := Lib.hid hf
  have hp6 := D_6.out.lt
  clear hdn ho hgo hgk hdin hgu hf HSe
  have HAl := Lib.hid (specAllOf_is (w := w6) (allL_yes (n := O.length) (by omega)))
  go_wp2_with fail
  refine HAl.out.mono ?_
  rintro e w7 ⟨lv, rfl, hlo, hb⟩
  obtain ⟨la, lc, hlv, hlk⟩ := hlo.keeps hp6
  subst hlv
  have HL := Lib.hid hlk
  have C1_7 := Lib.hid (C1_6.out.trans (Only.of_below hb))
  have C2_7 := Lib.hid (C2_6.out.trans (Only.of_below hb))
  have T_7 := Lib.hid (T_6.out.below hb)
  have C6_7 := Lib.hid (C6_6.out.trans (Only.of_below hb))
  have D_7 := Lib.hid (D_6.out.below hb)
  clear C1_6 C2_6 T_6 C6_6 D_6
  have C7_7 : Hid (Only (fun b => b = w.heap.size) w7 w7) := Only.refl _ _
  have hp7 := D_7.out.lt
  clear hb hlo hlk HAl
  have t0 := T_7.out.cell0
  have t1 := T_7.out.cell1
  have HAt := Lib.hid (Attract_is lc gc HF.out.s ⟨_, _, co, cn, _, _, rfl, HAO.out _ C2_7.out, HAN.out _ C2_7.out⟩ (HL.out _ C7_7.out) (HG.out _ C6_7.out))
  go_wp2_with fail
  refine HAt.out.mono ?_
  rintro e w8 ⟨sv, rfl, hso, hb⟩
  obtain ⟨sa, sc, hsv, hsk⟩ := hso.keeps hp7
  subst hsv
  have HS := Lib.hid hsk
  have C1_8 := Lib.hid (C1_7.out.trans (Only.of_below hb))
  have C2_8 := Lib.hid (C2_7.out.trans (Only.of_below hb))
  have T_8 := Lib.hid (T_7.out.below hb)
  have C6_8 := Lib.hid (C6_7.out.trans (Only.of_below hb))
  have C7_8 := Lib.hid (C7_7.out.trans (Only.of_below hb))
  have D_8 := Lib.hid (D_7.out.below hb)
  clear C1_7 C2_7 T_7 C6_7 C7_7 D_7
  have C8_8 : Hid (Only (fun b => b = w.heap.size) w8 w8) := Only.refl _ _
  have hp8 := D_8.out.lt
  clear hb hso hsk HAt t0 t1
  have t0 := T_8.out.cell0
  have t1 := T_8.out.cell1
  have HPu := Lib.hid (PullIn_is lc gc HF.out.p ⟨_, _, co, cn, _, _, rfl, HAO.out _ C2_8.out, HAN.out _ C2_8.out⟩ (HL.out _ C7_8.out) (HG.out _ C6_8.out))
  go_wp2_with fail
  refine HPu.out.mono ?_
  rintro e w9 ⟨pv, rfl, hpo, hb⟩
  obtain ⟨pa, pc, hpv, hpk⟩ := hpo.keeps hp8
  rw [fnL_len] at hpv
  subst hpv
  have HP := Lib.hid hpk
  have C1_9 := Lib.hid (C1_8.out.trans (Only.of_below hb))
  have C2_9 := Lib.hid (C2_8.out.trans (Only.of_below hb))
  have T_9 := Lib.hid (T_8.out.below hb)
  have C6_9 := Lib.hid (C6_8.out.trans (Only.of_below hb))
  have C7_9 := Lib.hid (C7_8.out.trans (Only.of_below hb))
  have C8_9 := Lib.hid (C8_8.out.trans (Only.of_below hb))
  have D_9 := Lib.hid (D_8.out.below hb)
  clear C1_8 C2_8 T_8 C6_8 C7_8 C8_8 D_8
  have C9_9 : Hid (Only (fun b => b = w.heap.size) w9 w9) := Only.refl _ _
  have hp9 := D_9.out.lt
  clear hb hpo hpk HPu t0 t1
  have t0 := T_9.out.cell0
  have t1 := T_9.out.cell1
  have hnn : ((O.length : Int) != (O.length : Int)) = false := by simp
  have HAs := Lib.hid (specAttract_is lc gc HF.out.s ⟨_, _, co, cn, _, _, rfl, HAO.out _ C2_9.out, HAN.out _ C2_9.out⟩ (HL.out _ C7_9.out) (HG.out _ C6_9.out))
  go_wp2_with fail
  refine HAs.out.mono ?_
  rintro e w10 ⟨zv, rfl, hzo, hb⟩
  obtain ⟨za, zc, hzv, hzk⟩ := hzo.keeps hp9
  subst hzv
  have HZ := Lib.hid (hzk _ (Only.refl _ _))
  have C1_10 := Lib.hid (C1_9.out.trans (Only.of_below hb))
  have C2_10 := Lib.hid (C2_9.out.trans (Only.of_below hb))
  have T_10 := Lib.hid (T_9.out.below hb)
  have C6_10 := Lib.hid (C6_9.out.trans (Only.of_below hb))
  have C7_10 := Lib.hid (C7_9.out.trans (Only.of_below hb))
  have C8_10 := Lib.hid (C8_9.out.trans (Only.of_below hb))
  have C9_10 := Lib.hid (C9_9.out.trans (Only.of_below hb))
  have D_10 := Lib.hid (D_9.out.below hb)
  clear C1_9 C2_9 T_9 C6_9 C7_9 C8_9 C9_9 D_9
  clear hb hzo hzk HAs t0 t1
  have HLk := Lib.hid (likeInts_at (w := w10) (v := .slice sa S.length sc) (v' := .slice za S.length zc) ⟨sa, sc, rfl, HS.out _ C8_10.out⟩ ⟨za, zc, rfl, HZ.out⟩)
  go_wp2_with fail
  refine HLk.out.mono ?_
  rintro e w11 ⟨rfl, hb⟩
  have C1_11 := Lib.hid (C1_10.out.trans (Only.of_below hb))
  have C2_11 := Lib.hid (C2_10.out.trans (Only.of_below hb))
  have T_11 := Lib.hid (T_10.out.below hb)
  have C6_11 := Lib.hid (C6_10.out.trans (Only.of_below hb))
  have C7_11 := Lib.hid (C7_10.out.trans (Only.of_below hb))
  have C8_11 := Lib.hid (C8_10.out.trans (Only.of_below hb))
  have C9_11 := Lib.hid (C9_10.out.trans (Only.of_below hb))
  have D_11 := Lib.hid (D_10.out.below hb)
  clear C1_10 C2_10 T_10 C6_10 C7_10 C8_10 C9_10 D_10
  clear hb HLk HZ hnn
  have hp11 := D_11.out.lt
  have t0 := T_11.out.cell0
  have t1 := T_11.out.cell1
  have HQ := Lib.hid (w5Plan_is (co := co) (cn := cn) (who := 1 - n0) D_11.out (fun W' ho => ⟨HAO.out W' (C2_11.out.trans ho), HAN.out W' (C2_11.out.trans ho)⟩) HZO.out (by omega) (fun k hk => by
    have := (HAP.out.2.2.2 k hk).2
    omega))
  go_wp2_with fail
  refine HQ.out.mono ?_
  rintro e w12 ⟨qv, Q, rfl, hqo, hqp, hdin⟩
  obtain ⟨qa, qc, hqv, hqk⟩ := hqo.keeps hp11
  rw [fnL_len] at hqv
  subst hqv
  have HQT := Lib.hid (hqk _ (Only.refl _ _))
  have HQP := Lib.hid hqp
  obtain ⟨j12, h12, hdn⟩ := hdin.cur
  have ho := hdin.only
  have C1_12 := Lib.hid (C1_11.out.trans ho)
  have C2_12 := Lib.hid (C2_11.out.trans ho)
  have T_12 := Lib.hid (T_11.out.only ho (by omega))
  have C6_12 := Lib.hid (C6_11.out.trans ho)
  have C7_12 := Lib.hid (C7_11.out.trans ho)
  have C8_12 := Lib.hid (C8_11.out.trans ho)
  have C9_12 := Lib.hid (C9_11.out.trans ho)
  have D_12 := Lib.hid hdn
  clear C1_11 C2_11 T_11 C6_11 C7_11 C8_11 C9_11 D_11
  clear hdn ho hqo hqk hqp hdin HQ t0 t1
  have HAR : Hid (∀ W', Below w12.heap.size w12 W' → ArenaAt W' (.agg #[.slice ao O.length co, .slice an zss.length cn]) O zss) := fun W' hb =>
    ⟨_, _, _, _, _, _, rfl, HAO.out _ (C2_12.out.trans (Only.of_below hb)), HAN.out _ (C2_12.out.trans (Only.of_below hb))⟩
  have HGo : Hid (∀ W', Below w12.heap.size w12 W' → IntsAt W' ga G) := fun W' hb => HG.out _ (C6_12.out.trans (Only.of_below hb))
  have HLo : Hid (∀ W', Below w12.heap.size w12 W' → IntsAt W' la (upL O.length)) := fun W' hb => HL.out _ (C7_12.out.trans (Only.of_below hb))
  have HSo : Hid (∀ W', Below w12.heap.size w12 W' → IntsAt W' sa S) := fun W' hb => HS.out _ (C8_12.out.trans (Only.of_below hb))
  have HPo : Hid (∀ W', Below w12.heap.size w12 W' → IntsAt W' pa (fnL O.length P)) := fun W' hb => HP.out _ (C9_12.out.trans (Only.of_below hb))
  have HQo : Hid (∀ W', Below w12.heap.size w12 W' → IntsAt W' qa (fnL O.length Q)) := fun W' hb => HQT.out.below hb
  have HOo : Hid (∀ W', Below w12.heap.size w12 W' → IntsAt W' ao O) := fun W' hb => HAO.out _ (C2_12.out.trans (Only.of_below hb))
  have BW : Hid (Below w.heap.size w w12) := B1.out.trans (C1_12.out.below (by omega) (fun b hb => by omega))
  have K12 := Lib.hid (Below.refl w12.heap.size w12)
  have hSl := HF.out.len
  clear C1_12 C2_12 C6_12 C7_12 C8_12 C9_12 HAO HAN HG HL HS HP HQT B1
  go_wp2
  go_loopw [13] (fun iv wr => ∃ k : Nat, k ≤ S.length ∧ iv = .int .i64 k ∧ Hid (Below w12.heap.size w12 wr)) (fun iv _ => S.length - (intOf iv).toNat)
  case atStart => exact ⟨0, Nat.zero_le _, rfl, K12⟩
  case round =>
    clear K12
    obtain ⟨k, hk, rfl, HK⟩ := hrel
    by_cases hlt : k < S.length
    · have hi1 : (k : Int) < S.length := by omega
      have hk0 : (0 : Int) ≤ (k : Int) := by omega
      obtain ⟨sb, so, hsa, hsc⟩ := (HSo.out _ HK.out).cell (by omega)
      have s1 := hsc k hlt
      obtain ⟨x0, hx0, hxl0, hxF0⟩ := HF.out.mem _ (nth_mem hlt)
      have htop0 := HF.out.top x0
      rw [hx0] at s1
      have HX0 := Lib.hid hx0
      subst hsa
      clear hsc hx0
      go_wp2
      go_loopw [14, 15] (fun vv kv wr => ∃ x j : Nat, vv = .int .i64 x ∧ kv = .int .i64 j ∧ x < O.length ∧ 0 ≤ F x ∧ (j : Int) + F x ≤ O.length ∧ Hid (Below w12.heap.size w12 wr)) (fun _ kv _ => O.length + 1 - (intOf kv).toNat)
      case atStart => exact ⟨x0, 0, rfl, rfl, hxl0, hxF0, by omega, HK⟩
      case round =>
        clear HK s1 HX0 hxl0 hxF0 htop0
        obtain ⟨x, j, rfl, rfl, hxl, hxF, hjF, HK⟩ := hrel
        have hj1 : (j : Int) ≤ O.length := by omega
        have hx0' : (0 : Int) ≤ (x : Int) := by omega
        have hGL := HF.out.goal x hxl hxF
        have t0 := (T_12.out.below HK.out).cell0
        by_cases hz : F x = 0
        · have HHV : Hid (hasIn G (x : Int) = true) := by rw [hGL]; exact decide_eq_true hz
          clear hGL hz
          go_wp2_with fail
          refine (hasIn_now HHV.out gc (HGo.out _ HK.out)).mono ?_
          rintro e w13 ⟨rfl, hb⟩
          have K13 := Lib.hid (HK.out.trans (hb.mono HK.out.size))
          clear hb t0
          go_wp2_with fail
          refine (hasIn_now HHV.out gc (HGo.out _ K13.out)).mono ?_
          rintro e w14 ⟨rfl, hb⟩
          have K14 := Lib.hid (K13.out.trans (hb.mono K13.out.size))
          clear hb
          go_wp2
          go_roundw
          case rel => exact ⟨k + 1, by omega, by go_num, K14⟩
          case measure => simp [intOf]; omega
        · have hFp : 0 < F x := by omega
          have HHV : Hid (hasIn G (x : Int) = false) := by rw [hGL]; exact decide_eq_false hz
          clear hGL hz
          go_wp2_with fail
          refine (hasIn_now HHV.out gc (HGo.out _ HK.out)).mono ?_
          rintro e w13 ⟨rfl, hb⟩
          have K13 := Lib.hid (HK.out.trans (hb.mono HK.out.size))
          clear hb t0
          have t0 := (T_12.out.below K13.out).cell0
          obtain ⟨ob, oo, hoa, hoc⟩ := (HOo.out _ K13.out).cell (by omega)
          have o1 := hoc x hxl
          obtain ⟨ow, how⟩ : ∃ ow, ow = nth O x := ⟨_, rfl⟩
          rw [← how] at o1
          have HOW := Lib.hid how
          have hxO : (x : Int) < O.length := by omega
          subst hoa
          clear hoc how
          by_cases hw : ow = n0
          · have hwe : (ow == n0) = true := by simpa using hw
            obtain ⟨y, hy1, hy2, hy3⟩ := HF.out.own x hxl hFp (by rw [← HOW.out]; exact hw)
            obtain ⟨pb, po, hpa, hpc⟩ := (HPo.out _ K13.out).cell (by rw [fnL_len]; omega)
            have p1 := hpc x (by rw [fnL_len]; exact hxl)
            rw [fnL_nth hxl, hy1] at p1
            subst hpa
            have HY3 := Lib.hid hy3
            clear hpc hy1 hy3 hw
            go_wp2
            go_roundw
            case rel => exact ⟨y, j + 1, rfl, by go_num, hy2, by have := HY3.out; omega, by have := HY3.out; omega, K13⟩
            case measure => simp [intOf]; omega
          · have hwe : (ow == n0) = false := beq_eq_false_iff_ne.2 hw
            have hxw : nth O x = 1 - n0 := by
              have h1 := (HAP.out.2.2.2 x hxl).1
              have h2 := HW01.out
              have h3 := HOW.out
              omega
            obtain ⟨y, hy1, hy2, hy3, hy4⟩ := HF.out.opp x hxl hFp (by rw [← HOW.out]; exact hw) _ ((HQP.out x hxl).1 hxw)
            obtain ⟨qb, qo, hqa, hqc⟩ := (HQo.out _ K13.out).cell (by rw [fnL_len]; omega)
            have q1 := hqc x (by rw [fnL_len]; exact hxl)
            rw [fnL_nth hxl, hy1] at q1
            subst hqa
            have HY3 := Lib.hid (And.intro hy3 hy4)
            clear hqc hy1 hy3 hy4 hw hxw
            go_wp2
            go_roundw
            case rel => exact ⟨y, j + 1, rfl, by go_num, hy2, HY3.out.1, by have := HY3.out.2; omega, K13⟩
            case measure => simp [intOf]; omega
    · have hi1 : ¬ (k : Int) < S.length := by omega
      have HLe := Lib.hid (specLessOf_is HF.out.r lc sc (HLo.out _ HK.out) (HSo.out _ HK.out))
      go_wp2_with fail
      refine HLe.out.mono ?_
      rintro e w13 ⟨rv, rfl, hro, hb⟩
      have K13 := Lib.hid (HK.out.trans (hb.mono HK.out.size))
      obtain ⟨ra, rc, hrv, hri, -⟩ := hro.shape
      subst hrv
      have HRI := Lib.hid hri
      have t0 := (T_12.out.below K13.out).cell0
      have t1 := (T_12.out.below K13.out).cell1
      clear hb hro hri HLe
      have HTr := Lib.hid (TrapIn_is rc HF.out.trap (HAR.out _ K13.out) HRI.out)
      go_wp2_with fail
      refine HTr.out.mono ?_
      rintro e w14 ⟨rfl, hb⟩
      have K14 := Lib.hid (K13.out.trans (hb.mono K13.out.size))
      have HR14 := Lib.hid (HRI.out.below hb)
      clear hb t0 t1 HTr
      have t0 := (T_12.out.below K14.out).cell0
      have t1 := (T_12.out.below K14.out).cell1
      have HEs := Lib.hid (EscapesIn_is rc HF.out.esc (HAR.out _ K14.out) HR14.out)
      go_wp2_with fail
      refine HEs.out.mono ?_
      rintro e w15 ⟨ev, rfl, heo, hb⟩
      have K15 := Lib.hid (K14.out.trans (hb.mono K14.out.size))
      obtain ⟨ea, ec, hev, -, -⟩ := heo.shape
      subst hev
      have hfin := Lib.hid (BW.out.trans (K15.out.mono BW.out.size))
      clear hb heo HEs t0 t1
      go_wp2
      go_ret
      exact ⟨by simp, hfin.out⟩

end Go.Proofs.Ytaoagikipbcjpaa
