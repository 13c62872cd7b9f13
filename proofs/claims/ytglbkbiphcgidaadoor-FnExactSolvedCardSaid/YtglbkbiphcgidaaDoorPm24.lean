import Derived.Deep.RegionHeld3
import Derived.Test.YtglbkbiphcgidaaDoorRows
import Derived.Lib.LaidTab
import Derived.LaidSub
import Derived.LaidHandle
import Derived.Deep.DeepHandedRow
import Derived.ProofKit
import Derived.OpenShut
import Derived.Carry
import Derived.ChangeVars
import Derived.SizedLaws
import Derived.Deep.Matrix
import Derived.Lib.SmallJoins
import Derived.Test.YtglbkbiphcgidaaDoorPm00
import Derived.Test.YtglbkbiphcgidaaDoorPm02
import Derived.Test.YtglbkbiphcgidaaDoorPm04
import Derived.Test.YtglbkbiphcgidaaDoorPm05
import Derived.Test.YtglbkbiphcgidaaDoorPm08
import Derived.Test.YtglbkbiphcgidaaDoorPm09
import Derived.Test.YtglbkbiphcgidaaDoorPm21
import Derived.Test.YtglbkbiphcgidaaDoorPm22
import Derived.Test.YtglbkbiphcgidaaDoorPm23
namespace Go.Proofs.YtglbkbiphcgidaaDoor
open Go.RowKit
set_option maxHeartbeats 4000000 in
theorem IJ {w : World} {v v' : Value} {X Y : List Int} (h : Ae w v X Y) (h' : Ae w v' X Y) :
 Calls Tryd.prog 18 #[v, v'] w fun e w' => e = .returned (.bool true) ∧ Below w.heap.size w w' := by
 obtain ⟨ax, ay, cx, cy, rfl, h1, h2⟩ := h
 obtain ⟨bx, by', dx, dy, rfl, g1, g2⟩ := h'
 obtain ⟨w0, hw0⟩ : ∃ y, y = w.alloc (.cells #[.slice ax X.length cx, .slice ay Y.length cy] 30) := ⟨_, rfl⟩
 have hs0 : w0.heap.size = w.heap.size + 1 := by rw [hw0]; simp
 obtain ⟨w1, hw1⟩ : ∃ y, y = w0.alloc (.cells #[.slice bx X.length dx, .slice by' Y.length dy] 30) := ⟨_, rfl⟩
 have HW0 := Lib.hid hw0
 have HW1 := Lib.hid hw1
 have hb0 : Below w.heap.size w w0 := by rw [hw0]; exact aA _ _
 have hb1 : Below w0.heap.size w0 w1 := by rw [hw1]; exact aA _ _
 have B1 : Hid (Below w.heap.size w w1) := hb0.trans (hb1.mono (by omega))
 have MS : Hid (aI w1 w.heap.size 30 (.slice ax X.length cx) (.slice ay Y.length cy)) := aI.below (by rw [hw0]; exact aI.new _ _ _ _) hb1
 have MV : Hid (aI w1 (w.heap.size + 1) 30 (.slice bx X.length dx) (.slice by' Y.length dy)) := by rw [← hs0, hw1]; exact aI.new _ _ _ _
 have HXa : Hid (jF w (.slice ax X.length cx) X) := ⟨_, _, rfl, h1⟩
 have HXb : Hid (jF w (.slice bx X.length dx) X) := ⟨_, _, rfl, g1⟩
 have HYa : Hid (jF w (.slice ay Y.length cy) Y) := ⟨_, _, rfl, h2⟩
 have HYb : Hid (jF w (.slice by' Y.length dy) Y) := ⟨_, _, rfl, g2⟩
 have a0 := MS.out.cell0
 have b0 := MV.out.cell0
 rw [hw1, hw0] at a0 b0
 clear hw0 hw1 hb0 hb1 hs0 h1 h2 g1 g2
 go_enter Tryd.func18, Tryd.ntmps18
 go_wp2_with fail
 rw [← HW0.out, ← HW1.out]
 refine (MJ (HXa.out.below B1.out) (HXb.out.below B1.out)).mono ?_
 rintro e w2 ⟨rfl, hb⟩
 have B2 := Lib.hid (B1.out.trans (hb.mono B1.out.size))
 have Ru := Lib.hid (MS.out.below hb)
 have Ry := Lib.hid (MV.out.below hb)
 clear hb a0 b0
 have ta2 := Ru.out.cell1
 have tb2 := Ry.out.cell1
 go_wp2_with fail
 refine (MJ (HYa.out.below B2.out) (HYb.out.below B2.out)).mono ?_
 rintro e w3 ⟨rfl, hb⟩
 have B3 := Lib.hid (B2.out.trans (hb.mono B2.out.size))
 clear hb
 go_wp2
 go_ret
 exact ⟨rfl, B3.out⟩
set_option maxHeartbeats 4000000 in
theorem acR {w : World} {B D : Nat} {v : Value} {X Y : List Int} {k r : Int} (hr : k + X.length + Y.length = r) (h : iQ w B D v X Y) (h0 : 0 ≤ k) (h1 : k ≤ 1073741824) (hs : sK X Y ≤ 1048576) :
 Calls Tryd.prog 23 #[v, .int .i64 k] w fun e w' => e = .returned (.int .i64 r) ∧
  iQ w' B D v (marks k X.length) (marks (k + X.length) Y.length) ∧ Only (fun b => B ≤ b ∧ b < D) w w' := by
 unfold sK at hs
 obtain ⟨m, hm⟩ : ∃ m : Int, k + X.length = m := ⟨_, rfl⟩
 have hm0 : 0 ≤ m := by omega
 have hm1 : m ≤ 1152921504606846976 := by omega
 have HM := Lib.hid hm
 rw [hm] at hr ⊢
 have HR := Lib.hid hr
 obtain ⟨vx, vy, rfl, h2, h3, h4⟩ := h
 obtain ⟨a, cap, rfl, hI, _⟩ := h2.shape
 obtain ⟨a', cap', rfl, Rz, _⟩ := h3.shape
 obtain ⟨w1, hw1⟩ : ∃ y, y = w.alloc (.cells #[.slice a X.length cap, .slice a' Y.length cap'] 30) := ⟨_, rfl⟩
 have HW1 := Lib.hid hw1
 have hb1 : Below w.heap.size w w1 := by rw [hw1]; exact aA _ _
 have T1 : Hid (aI w1 w.heap.size 30 (.slice a X.length cap) (.slice a' Y.length cap')) := by rw [hw1]; exact aI.new _ _ _ _
 have HX := Lib.hid (h2.below hb1)
 have HY := Lib.hid (h3.below hb1)
 have H4 := Lib.hid h4
 have B1 := Lib.hid hb1
 clear h2 h3 h4 hI Rz hw1 hb1 hr hm
 go_enter Tryd.func23, Tryd.ntmps23
 go_wp2_with fail
 rw [← HW1.out]
 refine (E9 HX.out k h0 (by omega)).mono ?_
 rintro e w2 ⟨rfl, g1, g2⟩
 have T2 := Lib.hid (T1.out.only g2 (fun hb => T1.out.dL HX.out.own (by decide) hb))
 have Yi := Lib.hid (HY.out.only g2 (fun g hg hb => H4.out g hb hg))
 have K2 := Lib.hid g2
 have G1 := Lib.hid g1
 clear g1 g2
 have t2 := T2.out.cell1
 go_wp2_with fail
 rw [HM.out]
 refine (E9 Yi.out m hm0 hm1).mono ?_
 rintro e w3 ⟨rfl, g1, g2⟩
 have hfin : Hid (iQ w3 B D (.agg #[.slice a X.length cap, .slice a' Y.length cap']) (marks k X.length) (marks m Y.length)) :=
  ⟨_, _, rfl, G1.out.only g2 (fun g hg hb => H4.out g hg hb), g1, H4.out⟩
 have hO3 : Hid (Only (fun b => B ≤ b ∧ b < D) w w3) := (Only.of_below B1.out).trans ((K2.out.mono fun b hb => ⟨(HX.out.own.lt b hb).1, HX.out.top b hb⟩).trans (g2.mono fun b hb => ⟨(Yi.out.own.lt b hb).1, Yi.out.top b hb⟩))
 have HR3 : Hid (m + Y.length = r) := HR.out
 clear g1 g2
 go_wp2
 go_ret
 exact ⟨kG HR3.out, hfin.out, hO3.out⟩
set_option maxHeartbeats 4000000 in
theorem Qy {w : World} {v : Value} {X Y : List Int} {k r : Int} (hr : k + X.length + Y.length = r) (h : Ae w v (marks k X.length) (marks (k + X.length) Y.length)) (h0 : 0 ≤ k) (h1 : k ≤ 1073741824) (hs : sK X Y ≤ 1048576) :
 Calls Tryd.prog 24 #[v, .int .i64 k] w fun e w' => e = .returned (.int .i64 r) ∧ Below w.heap.size w w' := by
 unfold sK at hs
 obtain ⟨m, hm⟩ : ∃ m : Int, k + X.length = m := ⟨_, rfl⟩
 have hm0 : 0 ≤ m := by omega
 have hm1 : m ≤ 1152921504606846976 := by omega
 have hmn : ¬ m < 0 := by omega
 have hrn : ¬ r < 0 := by omega
 rw [hm] at h hr
 obtain ⟨ax, ay, cx, cy, rfl, hX, hY⟩ := h
 rw [vZ, vZ] at *
 obtain ⟨w1, hw1⟩ : ∃ y, y = w.alloc (.cells #[.slice ax X.length cx, .slice ay Y.length cy] 30) := ⟨_, rfl⟩
 have HW1 := Lib.hid hw1
 have B1 : Hid (Below w.heap.size w w1) := by rw [hw1]; exact aA _ _
 have T1 : Hid (aI w1 w.heap.size 30 (.slice ax X.length cx) (.slice ay Y.length cy)) := by rw [hw1]; exact aI.new _ _ _ _
 have HVx : Hid (jF w (.slice ax X.length cx) (marks k X.length)) := ⟨ax, cx, by rw [vZ], hX⟩
 have HVy : Hid (jF w (.slice ay Y.length cy) (marks m Y.length)) := ⟨ay, cy, by rw [vZ], hY⟩
 have HR := Lib.hid hr
 have HM := Lib.hid hm
 clear hw1 hX hY hr hm
 go_enter Tryd.func24, Tryd.ntmps24
 go_wp2_with fail
 rw [← HW1.out]
 refine (Zc HM.out (HVx.out.below B1.out) h0 (by omega)).mono ?_
 rintro e w2 ⟨rfl, rfl⟩
 have t2 := T1.out.cell1
 go_wp2_with fail
 refine (Zc HR.out (HVy.out.below B1.out) hm0 hm1).mono ?_
 rintro e w3 ⟨rfl, rfl⟩
 go_wp2
 go_ret
 exact ⟨rfl, B1.out⟩
end Go.Proofs.YtglbkbiphcgidaaDoor
namespace Go.Proofs.YtglbkbiphcgidaaDoor
section
open Go.RowKit
end
end Go.Proofs.YtglbkbiphcgidaaDoor
namespace Go.Proofs.YtglbkbiphcgidaaDoor
section
open Go.RowKit Go.Shelf
theorem acS {w : World} {X Y : List Int} {r : Bool} {e : Ending} {w' : World} (h : Dv w X Y r e w') : Ua w X Y r e w' := by
 obtain ⟨vx, vy, he, h1, h2, h3, hb⟩ := h
 exact ⟨_, he, ⟨vx, vy, rfl, h1, h2, h3⟩, hb⟩
theorem ai2 {w : World} {v : Value} {O P Pk X Y : List Int} {ah : List (List Int)} {aK : Option Addr} {r : Bool} (cK : Nat) (hr : oH O ah P Pk = X ∧ oI O ah P Pk = Y ∧ kT O ah P Pk = r) (h : gX w v O ah P) (hK : aV w aK Pk) :
 Calls Tryd.prog 14 #[v, .slice aK Pk.length cK] w (Ua w X Y r) := (aaP cK hr h hK).mono fun _ _ h => acS h
theorem acT {w : World} {v : Value} {O P Pk X Y : List Int} {ah : List (List Int)} {aK : Option Addr} {r : Bool} (hT : dS w) (cK : Nat) (hr : oH O ah P Pk = X ∧ oI O ah P Pk = Y ∧ kT O ah P Pk = r) (h : gX w v O ah P) (hK : aV w aK Pk) :
 Calls Tryd.prog 17 #[v, .slice aK Pk.length cK] w (Ua w X Y r) := (acP cK hr h hK hT).mono fun _ _ h => acS h
theorem ai3 {O P Pk : List Int} {ah : List (List Int)} : sK (oH O ah P Pk) (oI O ah P Pk) ≤ 1048576 := by
 unfold oH oI
 cases hb : kT O ah P Pk with
 | false => simp [sK]
 | true =>
   have hk := (Un.1 hb).1
   unfold jb fO at hk
   simp only [Bool.and_eq_true] at hk
   have hp := hk.1.1
   have hl := (tV.1 hk.1.2).1
   have hA := (iY.1 hp).1
   have h1 := hA.2.1
   have h2 := hA.2.2.1
   simp only [if_true, sK, yh, wU]
   omega
end
end Go.Proofs.YtglbkbiphcgidaaDoor
namespace Go.Proofs.YtglbkbiphcgidaaDoor
open Go.RowKit
set_option maxHeartbeats 16000000 in
set_option maxRecDepth 100000 in
theorem ai4 {w : World} {v0 : Value} {O0 : List Int} {z0 : List (List Int)} {P0 : List Int} {Yj : Option Addr} {S1 : List Int} {cs1 : Nat} (h0 : gX w v0 O0 z0 P0) (h1 : aV w Yj S1) (hE : dS w) :
 Calls Tryd.prog 3 #[v0, .slice Yj S1.length cs1] w fun e w' => e = .returned (.bool true) ∧ Below w.heap.size w w' := by
 have HE := Lib.hid hE
 clear hE
 have H0 := Lib.hid h0
 obtain ⟨vJ, vK, vM, vN, vO, vP, A0, C0, rfl, q0, q1, q2⟩ := h0
 clear q0 q1 q2
 have H1 : Hid (jF w (.slice Yj S1.length cs1) S1) := ⟨_, _, rfl, h1⟩
 have hl1 := h1.len
 clear h1
 obtain ⟨w1, hw1⟩ : ∃ y, y = (w.alloc (.cells #[.slice vJ O0.length vN, .slice vK z0.length vO, .slice vM P0.length vP] 27)) := ⟨_, rfl⟩
 have HW1 := Lib.hid hw1
 have B1 : Hid (Below w.heap.size w w1) := by rw [hw1]; exact aA _ _
 have b0 : Hid (aT w1 (w.heap.size) 27 (.slice vJ O0.length vN) (.slice vK z0.length vO) (.slice vM P0.length vP)) := by rw [hw1]; exact aT.xJ (by simp) _ _ _ _ 
 have K1 : Hid (Keep [w1, w] w1) := ⟨Below.refl _ _, B1.out, trivial⟩
 clear hw1
 by_cases ai5 : (1048576 : Int) < S1.length
 · go_enter Tryd.func3, Tryd.ntmps3
   go_wp2
   go_ret
   exact ⟨rfl, by rw [← HW1.out]; exact B1.out⟩
 have akW : (S1.length : Int) ≤ 1048576 := by omega
 have akX : S1.length ≤ 1048576 := by omega
 clear ai5
 by_cases hs0 : (1048576 : Int) < (jK O0 z0 P0 : Int)
 · skip
   have Yl : Hid (∀ W, Below w.heap.size w W → Calls Tryd.prog 13 #[.agg #[.slice vJ O0.length vN, .slice vK z0.length vO, .slice vM P0.length vP], .int .i64 (1048576 : Int)] W fun e w' => e = .returned (.int .i64 (-1)) ∧ Below W.heap.size W w') := fun W hb => MR (sU hs0) (H0.out.below hb) (by omega) (by omega)
   clear hs0
   go_enter Tryd.func3, Tryd.ntmps3
   go_wp2_with fail
   rw [← HW1.out]
   refine (Yl.out _ K1.out.2.1).mono ?_
   rintro e w2 ⟨rfl, hb⟩
   have nG : Hid (Keep [w1, w] w2) := K1.out.step hb
   clear K1
   clear hb
   go_wp2
   go_ret
   exact ⟨rfl, nG.out.2.1⟩
 have hle0 : (jK O0 z0 P0 : Int) ≤ (1048576 : Int) := by omega
 obtain ⟨m0, hm0⟩ : ∃ m, leftOf (1048576 : Int) (jK O0 z0 P0) = m := ⟨_, rfl⟩
 have Yo : m0 = (1048576 : Int) - (jK O0 z0 P0 : Int) := by rw [← hm0]; exact zH hle0
 have ai6 : 0 ≤ m0 := by omega
 have ai7 : m0 ≤ 1048576 := by omega
 have zq : Hid (jK O0 z0 P0 ≤ 1048576) := by simp only [Hid]; omega
 have FX : Hid (∀ W, Below w.heap.size w W → Calls Tryd.prog 13 #[.agg #[.slice vJ O0.length vN, .slice vK z0.length vO, .slice vM P0.length vP], .int .i64 (1048576 : Int)] W fun e w' => e = .returned (.int .i64 m0) ∧ Below W.heap.size W w') := fun W hb => MR hm0 (H0.out.below hb) (by omega) (by omega)
 have hn0 : z0.length ≤ 1048576 := by have := zq.out; unfold jK at this; (try unfold jq at this); omega
 clear hs0 hm0 hle0 Yo
 have hRS := ai3 (O := O0) (ah := z0) (P := P0) (Pk := S1)
 obtain ⟨rX, Es⟩ : ∃ r, oH O0 z0 P0 S1 = r := ⟨_, rfl⟩
 obtain ⟨rY, Et⟩ : ∃ r, oI O0 z0 P0 S1 = r := ⟨_, rfl⟩
 obtain ⟨rb1, acU⟩ : ∃ r, kT O0 z0 P0 S1 = r := ⟨_, rfl⟩
 rw [Es, Et] at hRS
 have Eu : Hid (sK rX rY ≤ 1048576) := hRS
 have R0 := Lib.hid (And.intro Es (And.intro Et acU))
 have akY : (rb1 != rb1) = false := by simp
 clear Es Et acU hRS
 obtain ⟨mk0, KL⟩ : ∃ r : Int, (1 : Int) + (O0.length : Int) + (fD z0 z0.length : Int) + (P0.length : Int) = r := ⟨_, rfl⟩
 have Yp := Lib.hid KL
 have ai8 : 0 ≤ mk0 := by omega
 have ai9 : mk0 ≤ 1048577 := by have := zq.out; unfold jK at this; (try unfold jq at this); omega
 obtain ⟨mk1, acV⟩ : ∃ r : Int, mk0 + (S1.length : Int) = r := ⟨_, rfl⟩
 have MK1 := Lib.hid acV
 have akZ : 0 ≤ mk1 := by omega
 have ak0 : mk1 ≤ 2097153 := by omega
 obtain ⟨mg, KN⟩ : ∃ r : Int, (1 : Int) + (rX.length : Int) + (rY.length : Int) = r := ⟨_, rfl⟩
 have MG := Lib.hid KN
 have aja : 0 ≤ mg := by omega
 have ajb : (mg != mg) = false := by simp
 clear KN KL acV
 go_enter Tryd.func3, Tryd.ntmps3
 go_wp2_with fail
 rw [← HW1.out]
 refine (FX.out _ K1.out.2.1).mono ?_
 rintro e w2 ⟨rfl, hb⟩
 have nG : Hid (Keep [w1, w] w2) := K1.out.step hb
 clear K1
 clear hb
 have c0 := (b0.out.below nG.out.1).c0
 have c1 := (b0.out.below nG.out.1).c1
 have c2 := (b0.out.below nG.out.1).c2
 go_wp2_with fail
 refine (zN (H0.out.below nG.out.2.1) hn0).mono ?_
 rintro e w3 ⟨x, rfl, hu, hb⟩
 obtain ⟨ajc, ajd, aje, ajf, ajg, ajh, hus⟩ := hu.shape
 subst hus
 have Yq := Lib.hid hu
 have KO : Hid (Keep [w1, w] w3) := nG.out.step hb
 clear nG
 clear hu hb
 have Ew : Hid (Keep [w3, w1, w] w3) := KO.out.add
 clear KO
 clear c0 c1 c2
 go_wp2_with fail
 refine (ML (H1.out.below Ew.out.2.2.1)).mono ?_
 rintro e w4 ⟨x, rfl, hu, hb⟩
 obtain ⟨ak1, aji, hus⟩ := hu.shape2
 subst hus
 have pX1 := Lib.hid hu
 have KP : Hid (Keep [w3, w1, w] w4) := Ew.out.step hb
 clear Ew
 clear hu hb
 have Ey : Hid (Keep [w4, w3, w1, w] w4) := KP.out.add
 clear KP
 go_wp2_with fail
 refine (ai2 aji R0.out (Yq.out.below Ey.out.2.1).at (pX1.out.below Ey.out.1).v.at).mono ?_
 rintro e w5 ⟨x, rfl, hg, hb⟩
 obtain ⟨KQ, KR, KT, KU, hus⟩ := hg.shape
 subst hus
 have pG := Lib.hid hg
 have KZ : Hid (Keep [w4, w3, w1, w] w5) := Ey.out.step hb
 clear Ey
 clear hb hg
 have sN : Hid (Keep [w5, w4, w3, w1, w] w5) := KZ.out.add
 clear KZ
 obtain ⟨w6, hw6⟩ : ∃ y, y = w5.alloc (.cells #[.slice KQ rX.length KR, .slice KT rY.length KU] 30) := ⟨_, rfl⟩
 have Hw6 := Lib.hid hw6
 have hb : Below w5.heap.size w5 w6 := by rw [hw6]; exact aA _ _
 have zb : Hid (aI w6 w5.heap.size 30 (.slice KQ rX.length KR) (.slice KT rY.length KU)) := by rw [hw6]; exact aI.new _ _ _ _ 
 have La : Hid (Keep [w5, w4, w3, w1, w] w6) := sN.out.step hb
 clear sN
 clear hb
 have sO : Hid (Keep [w6, w5, w4, w3, w1, w] w6) := La.out.add
 clear La
 have c0 := (b0.out.below sO.out.2.2.2.2.1).c0
 have c1 := (b0.out.below sO.out.2.2.2.2.1).c1
 have c2 := (b0.out.below sO.out.2.2.2.2.1).c2
 rw [hw6] at c0 c1 c2
 clear hw6
 have OW : Hid (w.heap.size ≤ w1.heap.size) := B1.out.size
 have OC : Hid (w1.heap.size ≤ w6.heap.size) := sO.out.2.2.2.2.1.size
 have OP : Hid (w5.heap.size ≤ w6.heap.size) := sO.out.2.1.size
 go_wp2_with fail
 rw [← Hw6.out]
 have HB0 : Hid (w6.heap.size ≤ w6.heap.size) := sO.out.1.size
 refine (zN (H0.out.below sO.out.2.2.2.2.2.1) hn0).mono ?_
 rintro e w7 ⟨x, rfl, hu, hb⟩
 obtain ⟨Ez, EC, ED, EF, EG, EH, hus⟩ := hu.shape
 subst hus
 have EI := Lib.hid hu
 have Cb : Hid (w6.heap.size ≤ w7.heap.size) := hb.size
 have Lc : Hid (Keep [w6, w5, w4, w3, w1, w] w7) := sO.out.step hb
 clear sO
 clear hu hb
 have vS : Hid (Keep [w7, w6, w5, w4, w3, w1, w] w7) := Lc.out.add
 clear Lc
 clear c0 c1 c2
 obtain ⟨w8, hw8⟩ : ∃ y, y = w7.alloc (.cells #[.slice Ez O0.length EC, .slice ED z0.length EF, .slice EG P0.length EH] 35) := ⟨_, rfl⟩
 have Hw8 := Lib.hid hw8
 have hb : Below w7.heap.size w7 w8 := by rw [hw8]; exact aA _ _
 have iM : Hid (aT w8 w7.heap.size 35 (.slice Ez O0.length EC) (.slice ED z0.length EF) (.slice EG P0.length EH)) := by rw [hw8]; exact aT.new _ _ _ _ _ 
 have Ld : Hid (Keep [w7, w6, w5, w4, w3, w1, w] w8) := vS.out.step hb
 clear vS
 clear hb
 have Ci : Hid (Keep [w8, w7, w6, w5, w4, w3, w1, w] w8) := Ld.out.add
 clear Ld
 clear hw8
 go_wp2_with fail
 rw [← Hw8.out]
 have HB1 : Hid (w6.heap.size ≤ w8.heap.size) := Ci.out.2.2.1.size
 have Yr : Hid (w7.heap.size ≤ w8.heap.size) := Ci.out.2.1.size
 refine (ML (H1.out.below Ci.out.2.2.2.2.2.2.2.1)).mono ?_
 rintro e w9 ⟨x, rfl, hu, hb⟩
 obtain ⟨ak2, ajj, hus⟩ := hu.shape2
 subst hus
 have Yt := Lib.hid hu
 have fH : Hid (w8.heap.size ≤ w9.heap.size) := hb.size
 have Le : Hid (Keep [w8, w7, w6, w5, w4, w3, w1, w] w9) := Ci.out.step hb
 clear Ci
 clear hu hb
 have lH : Hid (Keep [w9, w8, w7, w6, w5, w4, w3, w1, w] w9) := Le.out.add
 clear Le
 have c0 := (iM.out.below lH.out.2.1).c0
 have c1 := (iM.out.below lH.out.2.1).c1
 have c2 := (iM.out.below lH.out.2.1).c2
 go_wp2_with fail
 have HD0 : Hid (w7.heap.size ≤ w9.heap.size) := lH.out.2.2.1.size
 have HD1 : Hid (w9.heap.size ≤ w9.heap.size) := lH.out.1.size
 refine (acT (HE.out.below lH.out.2.2.2.2.2.2.2.2.1) ajj R0.out (EI.out.below lH.out.2.2.1).at (Yt.out.below lH.out.1).v.at).mono ?_
 rintro e w10 ⟨x, rfl, hg, hb⟩
 obtain ⟨Lh, Lj, Lp, Lr, hus⟩ := hg.shape
 subst hus
 have xG := Lib.hid hg
 have IK : Hid (w9.heap.size ≤ w10.heap.size) := hb.size
 have xH : Hid (Keep [w9, w8, w7, w6, w5, w4, w3, w1, w] w10) := lH.out.step hb
 clear lH
 clear hb hg
 have acW : Hid (Keep [w10, w9, w8, w7, w6, w5, w4, w3, w1, w] w10) := xH.out.add
 clear xH
 clear c0 c1 c2
 obtain ⟨lI, Qz⟩ : ∃ y, y = w10.alloc (.cells #[.slice Lh rX.length Lj, .slice Lp rY.length Lr] 30) := ⟨_, rfl⟩
 have acX := Lib.hid Qz
 have hb : Below w10.heap.size w10 lI := by rw [Qz]; exact aA _ _
 have gb : Hid (aI lI w10.heap.size 30 (.slice Lh rX.length Lj) (.slice Lp rY.length Lr)) := by rw [Qz]; exact aI.new _ _ _ _ 
 have vT : Hid (Keep [w10, w9, w8, w7, w6, w5, w4, w3, w1, w] lI) := acW.out.step hb
 clear acW
 clear hb
 have rD : Hid (Keep [lI, w10, w9, w8, w7, w6, w5, w4, w3, w1, w] lI) := vT.out.add
 clear vT
 clear Qz
 have c0 := (gb.out.below rD.out.1).cell0
 have c1 := (gb.out.below rD.out.1).cell1
 have c2 := (zb.out.below rD.out.2.2.2.2.2.1).cell0
 have c3 := (zb.out.below rD.out.2.2.2.2.2.1).cell1
 rw [acX.out] at c0 c1 c2 c3
 go_wp2_with fail
 rw [← acX.out]
 refine (IJ (xG.out.below rD.out.2.1).at (pG.out.below rD.out.2.2.2.2.2.2.1).at).mono ?_
 rintro e w12 ⟨rfl, hb⟩
 have oU : Hid (Keep [lI, w10, w9, w8, w7, w6, w5, w4, w3, w1, w] w12) := rD.out.step hb
 clear rD
 clear hb
 clear c0 c1 c2 c3
 have c0 := (b0.out.below oU.out.2.2.2.2.2.2.2.2.2.1).c0
 have c1 := (b0.out.below oU.out.2.2.2.2.2.2.2.2.2.1).c1
 have c2 := (b0.out.below oU.out.2.2.2.2.2.2.2.2.2.1).c2
 have c3 := (iM.out.below oU.out.2.2.2.1).c0
 have c4 := (iM.out.below oU.out.2.2.2.1).c1
 have c5 := (iM.out.below oU.out.2.2.2.1).c2
 have Yu : Hid (Keep [lI, w10, w9, w8, w7, w6, w5, w4, w3, w1, w] w12.drew) := oU.out.step (Below.refl _ _).drew
 go_wp2_with fail
 go_region_held3 (fun w' => w'.cell? ⟨w.heap.size, 0, none⟩ = some (.slice vJ O0.length vN) ∧ w'.cell? ⟨w.heap.size, 1, none⟩ = some (.slice vK z0.length vO) ∧ w'.cell? ⟨w.heap.size, 2, none⟩ = some (.slice vM P0.length vP) ∧ w'.cell? ⟨w7.heap.size, 0, none⟩ = some (.slice Ez O0.length EC) ∧ w'.cell? ⟨w7.heap.size, 1, none⟩ = some (.slice ED z0.length EF) ∧ w'.cell? ⟨w7.heap.size, 2, none⟩ = some (.slice EG P0.length EH))
  (first
   | go_keep
   | exact ⟨d0, d1, d2, d3, d4, d5⟩
   | exact ⟨f0, f1, f2, f3, f4, f5⟩)
  (first
   | (go_at_call 15; refine (zN (H0.out.below Yu.out.2.2.2.2.2.2.2.2.2.2.1) hn0).mono ?_; rintro e QA ⟨x, rfl, hu, hb⟩; obtain ⟨ajk, ajl, ajm, ajn, ajo, ajp, hus⟩ := hu.shape; subst hus; have Ls := Lib.hid hu; have Cj : Hid (Keep [lI, w10, w9, w8, w7, w6, w5, w4, w3, w1, w] QA) := Yu.out.step hb; have d0 := (b0.out.below Cj.out.2.2.2.2.2.2.2.2.2.1).c0; have d1 := (b0.out.below Cj.out.2.2.2.2.2.2.2.2.2.1).c1; have d2 := (b0.out.below Cj.out.2.2.2.2.2.2.2.2.2.1).c2; have d3 := (iM.out.below Cj.out.2.2.2.1).c0; have d4 := (iM.out.below Cj.out.2.2.2.1).c1; have d5 := (iM.out.below Cj.out.2.2.2.1).c2; have QB : Hid (Keep [QA, lI, w10, w9, w8, w7, w6, w5, w4, w3, w1, w] QA) := Cj.out.add; clear hu hb)
   | (go_at_call 19; refine (Zp (EI.out.below QB.out.2.2.2.2.2.1).at (Ls.out.below QB.out.1).at).mono ?_; rintro e w14 ⟨rfl, hb⟩; have EJ : Hid (Keep [QA, lI, w10, w9, w8, w7, w6, w5, w4, w3, w1, w] w14) := QB.out.step hb; have f0 := (b0.out.below EJ.out.2.2.2.2.2.2.2.2.2.2.1).c0; have f1 := (b0.out.below EJ.out.2.2.2.2.2.2.2.2.2.2.1).c1; have f2 := (b0.out.below EJ.out.2.2.2.2.2.2.2.2.2.2.1).c2; have f3 := (iM.out.below EJ.out.2.2.2.2.1).c0; have f4 := (iM.out.below EJ.out.2.2.2.2.1).c1; have f5 := (iM.out.below EJ.out.2.2.2.2.1).c2; clear hb))
 clear c0 d0 f0 c1 d1 f1 c2 d2 f2 c3 d3 f3 c4 d4 f4 c5 d5 f5
 have Yv : Hid (Keep [lI, w10, w9, w8, w7, w6, w5, w4, w3, w1, w] w14) := EJ.out.2
 clear Yu Cj QB Ls
 go_wp2_with fail
 refine (ML (H1.out.below Yv.out.2.2.2.2.2.2.2.2.2.2.1)).mono ?_
 rintro e QC ⟨x, rfl, hu, hb⟩
 obtain ⟨ak3, ak4, hus⟩ := hu.shape2
 subst hus
 have ajq := Lib.hid hu
 have acY : Hid (Keep [lI, w10, w9, w8, w7, w6, w5, w4, w3, w1, w] QC) := Yv.out.step hb
 clear Yv
 clear hu hb
 have QD : Hid (Keep [QC, lI, w10, w9, w8, w7, w6, w5, w4, w3, w1, w] QC) := acY.out.add
 clear acY
 go_wp2_with fail
 refine (MJ (Yt.out.below QD.out.2.2.2.1).v (ajq.out.below QD.out.1).v).mono ?_
 rintro e w16 ⟨rfl, hb⟩
 have xI : Hid (Keep [QC, lI, w10, w9, w8, w7, w6, w5, w4, w3, w1, w] w16) := QD.out.step hb
 clear QD
 clear hb
 have acZ := Lib.hid (EI.out.below xI.out.2.2.2.2.2.1)
 have Yw := Lib.hid (Yt.out.below xI.out.2.2.2.1)
 have QE := Lib.hid (iM.out.below xI.out.2.2.2.2.1)
 have ac0 := Lib.hid (xG.out.below xI.out.2.2.1)
 have ac1 := Lib.hid (gb.out.below xI.out.2.1)
 have ac2 : Hid (Keep [w6, w5, w1, w] w16) := ⟨xI.out.2.2.2.2.2.2.1, xI.out.2.2.2.2.2.2.2.1, xI.out.2.2.2.2.2.2.2.2.2.2.1, xI.out.2.2.2.2.2.2.2.2.2.2.2.1, trivial⟩
 clear xI
 have c0 := QE.out.c0
 have c1 := QE.out.c1
 have c2 := QE.out.c2
 go_wp2_with fail
 refine (Zq Yp.out acZ.out (by omega) (by omega) zq.out).mono ?_
 rintro e t17 ⟨rfl, hx, ho⟩
 have o0 := OW.out
 have o1 := OC.out
 have o2 := OP.out
 have o3 := IK.out
 have zu := HB0.out
 have zx := Cb.out
 have zy := HD0.out
 have Lu := HB1.out
 have LC := fH.out
 have LD := HD1.out
 have LG := Yr.out
 have ac3 : Hid (Keep [w6, w5, w1, w] t17) := ac2.out.only ho (fun a ha b hb => by
  simp only [List.mem_cons, List.not_mem_nil, or_false] at ha
  rcases ha with rfl | rfl | rfl | rfl <;> omega)
 clear ac2
 clear acZ
 have ac4 := Lib.hid (Yw.out.only ho (fun g hg hb => by have := (Yw.out.own.lt g hg).1; omega))
 clear Yw
 clear QE
 have ac5 := Lib.hid (ac0.out.only ho (fun g hg1 hg2 hb => by omega))
 clear ac0
 have ac6 := Lib.hid (ac1.out.only ho (fun hb => by omega))
 clear ac1
 clear hx ho o0 o1 o2 o3 zu zx zy Lu LC LD LG c0 c1 c2
 go_wp2_with fail
 refine (aeG MK1.out ac4.out (by omega) (by omega)).mono ?_
 rintro e t18 ⟨rfl, hx, ho⟩
 have o0 := OW.out
 have o1 := OC.out
 have o2 := OP.out
 have o3 := IK.out
 have zu := HB0.out
 have zx := Cb.out
 have zy := HD0.out
 have Lu := HB1.out
 have LC := fH.out
 have LD := HD1.out
 have LG := Yr.out
 have LH : Hid (Keep [w6, w5, w1, w] t18) := ac3.out.only ho (fun a ha b hb => by
  simp only [List.mem_cons, List.not_mem_nil, or_false] at ha
  rcases ha with rfl | rfl | rfl | rfl <;> omega)
 clear ac3
 clear ac4
 have Yx := Lib.hid (ac5.out.only ho (fun g hg1 hg2 hb => by omega))
 clear ac5
 have QF := Lib.hid (ac6.out.only ho (fun hb => by omega))
 clear ac6
 clear hx ho o0 o1 o2 o3 zu zx zy Lu LC LD LG
 have c0 := QF.out.cell0
 have c1 := QF.out.cell1
 have d0 := (zb.out.below LH.out.1).cell0
 have d1 := (zb.out.below LH.out.1).cell1
 go_wp2_with fail
 refine (IJ Yx.out.at (pG.out.below LH.out.2.1).at).mono ?_
 rintro e t19 ⟨rfl, hb⟩
 have ajr := Lib.hid (Yx.out.below hb)
 clear Yx
 have Yy := Lib.hid (QF.out.below hb)
 clear QF
 have ac7 : Hid (Keep [w6, w5, w1, w] t19) := LH.out.step hb
 clear LH
 clear hb c0 d0 c1 d1
 have c0 := Yy.out.cell0
 have c1 := Yy.out.cell1
 go_wp2_with fail
 refine (acR MG.out ajr.out (by omega) (by omega) Eu.out).mono ?_
 rintro e t20 ⟨rfl, hx, ho⟩
 have o0 := OW.out
 have o1 := OC.out
 have o2 := OP.out
 have o3 := IK.out
 have zu := HB0.out
 have zx := Cb.out
 have zy := HD0.out
 have Lu := HB1.out
 have LC := fH.out
 have LD := HD1.out
 have LG := Yr.out
 have ac8 : Hid (Keep [w6, w5, w1, w] t20) := ac7.out.only ho (fun a ha b hb => by
  simp only [List.mem_cons, List.not_mem_nil, or_false] at ha
  rcases ha with rfl | rfl | rfl | rfl <;> omega)
 clear ac7
 have M := Lib.hid hx
 have zA := Lib.hid (Yy.out.only ho (fun hb => by omega))
 clear hx ho o0 o1 o2 o3 zu zx zy Lu LC LD LG c0 c1
 have LJ : Hid (Keep [t20, w6, w5, w1, w] t20) := ac8.out.add
 clear ac8
 have c0 := (zA.out.below LJ.out.1).cell0
 have c1 := (zA.out.below LJ.out.1).cell1
 go_wp2_with fail
 refine (Qy MG.out (M.out.below LJ.out.1).at (by omega) (by omega) Eu.out).mono ?_
 rintro e t21 ⟨rfl, hb⟩
 have Cm : Hid (Keep [t20, w6, w5, w1, w] t21) := LJ.out.step hb
 clear LJ
 clear hb c0 c1
 have c0 := (b0.out.below Cm.out.2.2.2.1).c0
 have c1 := (b0.out.below Cm.out.2.2.2.1).c1
 have c2 := (b0.out.below Cm.out.2.2.2.1).c2
 go_wp2_with fail
 refine (zN (H0.out.below Cm.out.2.2.2.2.1) hn0).mono ?_
 rintro e vU ⟨x, rfl, hu, hb⟩
 obtain ⟨ajs, ajt, aju, ajv, ajw, ajx, hus⟩ := hu.shape
 subst hus
 have hX0 := Lib.hid hu
 have ac9 : Hid (Keep [t20, w6, w5, w1, w] vU) := Cm.out.step hb
 clear Cm
 clear hu hb
 have Yz : Hid (Keep [vU, t20, w6, w5, w1, w] vU) := ac9.out.add
 clear ac9
 clear c0 c1 c2
 go_wp2_with fail
 refine (ML (H1.out.below Yz.out.2.2.2.2.2.1)).mono ?_
 rintro e zB ⟨x, rfl, hu, hb⟩
 obtain ⟨ak5, ajy, hus⟩ := hu.shape2
 subst hus
 have hX1 := Lib.hid hu
 have ada : Hid (Keep [vU, t20, w6, w5, w1, w] zB) := Yz.out.step hb
 clear Yz
 clear hu hb
 have LK : Hid (Keep [zB, vU, t20, w6, w5, w1, w] zB) := ada.out.add
 clear ada
 go_wp2_with fail
 refine (acT (HE.out.below LK.out.2.2.2.2.2.2.1) ajy R0.out (hX0.out.below LK.out.2.1).at (hX1.out.below LK.out.1).v.at).mono ?_
 rintro e vV ⟨x, rfl, hg, hb⟩
 obtain ⟨LM, LP, LQ, LU, hus⟩ := hg.shape
 subst hus
 have hG := Lib.hid hg
 have adb : Hid (Keep [zB, vU, t20, w6, w5, w1, w] vV) := LK.out.step hb
 clear LK
 clear hb hg
 have ade : Hid (Keep [vV, zB, vU, t20, w6, w5, w1, w] vV) := adb.out.add
 clear adb
 obtain ⟨EK, QG⟩ : ∃ y, y = vV.alloc (.cells #[.slice LM rX.length LP, .slice LQ rY.length LU] 30) := ⟨_, rfl⟩
 have adf := Lib.hid QG
 have hb : Below vV.heap.size vV EK := by rw [QG]; exact aA _ _
 have hbx : Hid (aI EK vV.heap.size 30 (.slice LM rX.length LP) (.slice LQ rY.length LU)) := by rw [QG]; exact aI.new _ _ _ _ 
 have adg : Hid (Keep [vV, zB, vU, t20, w6, w5, w1, w] EK) := ade.out.step hb
 clear ade
 clear hb
 have CB : Hid (Keep [EK, vV, zB, vU, t20, w6, w5, w1, w] EK) := adg.out.add
 clear adg
 clear QG
 have c0 := (hbx.out.below CB.out.1).cell0
 have c1 := (hbx.out.below CB.out.1).cell1
 have c2 := (zb.out.below CB.out.2.2.2.2.2.1).cell0
 have c3 := (zb.out.below CB.out.2.2.2.2.2.1).cell1
 rw [adf.out] at c0 c1 c2 c3
 go_wp2_with fail
 rw [← adf.out]
 refine (IJ (hG.out.below CB.out.2.1).at (pG.out.below CB.out.2.2.2.2.2.2.1).at).mono ?_
 rintro e w26 ⟨rfl, hb⟩
 have LV : Hid (Keep [EK, vV, zB, vU, t20, w6, w5, w1, w] w26) := CB.out.step hb
 clear CB
 clear hb
 clear c0 c1 c2 c3
 have c0 := (zA.out.below LV.out.2.2.2.2.1).cell0
 have c1 := (zA.out.below LV.out.2.2.2.2.1).cell1
 go_wp2_with fail
 refine (Qy MG.out (M.out.below LV.out.2.2.2.2.1).at (by omega) (by omega) Eu.out).mono ?_
 rintro e t27 ⟨rfl, hb⟩
 have ajz : Hid (Keep [EK, vV, zB, vU, t20, w6, w5, w1, w] t27) := LV.out.step hb
 clear LV
 clear hb c0 c1
 go_wp2
 go_ret
 exact ⟨rfl, ajz.out.2.2.2.2.2.2.2.2.1⟩
end Go.Proofs.YtglbkbiphcgidaaDoor
namespace Go.Proofs.YtglbkbiphcgidaaDoor
open Go.ChangeShapes Go.WideShapes Go.ChangeAt Go.RowKit
theorem adh : ownKnob Tryd.prog.godebug = none := by kernel_rfl
theorem adi : Tryd.prog.globalNamed "math/bits.deBruijn64tab" = some 1 := by kernel_rfl
theorem ajA : (Tryd.prog.globals[1]?).map (·.type) = some 175 := by kernel_rfl
abbrev sQ : String × DataW Unit := ("math/bits.deBruijn64tab", Rows.laid_math_bits_deBruijn64tab)
theorem ajB : (Rows.laid_math_bits_deBruijn64tab : DataW Unit) = Lib.tabData .u8 (Lib.deBruijn64tab.map fun (x : Nat) => (x : Int)) := by kernel_rfl
theorem adk {W : World} (h : laidMet Tryd.prog [sQ] W) : dS W := fun j hj => by
 unfold sQ at h
 rw [ajB] at h
 have h1 := Lib.tabIs_of_head adi ajA (n := 64) (e := 5) (by kernel_rfl) (by kernel_rfl) (by kernel_rfl) (by kernel_rfl) h
 have h2 := h1.cell adi j (by simpa [Lib.deBruijn64tab] using hj)
 rw [h2]
 congr 2
 simp [List.getD, List.getElem?_map]
 cases Lib.deBruijn64tab[j]? <;> simp
theorem adl {W : World} (h : laidMetH Tryd.prog [sQ] W) : laidMet Tryd.prog [sQ] W := by
 have h2 := (laidMetH_iff.1 h).1
 rw [show ([sQ].filter fun x => x.2.handleName?.isNone) = [sQ] by kernel_rfl] at h2
 exact h2
noncomputable def QH (os : Os) : World :=
 let w0 := World.holding Tryd.prog os ⟨#[], #[], []⟩
 { w0 with heap := (w0.heap.modify 1 fun
  | .cells _ t frozen => .cells #[.int .u8 0, .int .u8 1, .int .u8 56, .int .u8 2, .int .u8 57, .int .u8 49, .int .u8 28, .int .u8 3, .int .u8 61, .int .u8 58, .int .u8 42, .int .u8 50, .int .u8 38, .int .u8 29, .int .u8 17, .int .u8 4, .int .u8 62, .int .u8 47, .int .u8 59, .int .u8 36, .int .u8 45, .int .u8 43, .int .u8 51, .int .u8 22, .int .u8 53, .int .u8 39, .int .u8 33, .int .u8 30, .int .u8 24, .int .u8 18, .int .u8 12, .int .u8 5, .int .u8 63, .int .u8 55, .int .u8 48, .int .u8 27, .int .u8 60, .int .u8 41, .int .u8 37, .int .u8 16, .int .u8 46, .int .u8 35, .int .u8 44, .int .u8 21, .int .u8 52, .int .u8 32, .int .u8 23, .int .u8 11, .int .u8 54, .int .u8 26, .int .u8 40, .int .u8 15, .int .u8 34, .int .u8 20, .int .u8 31, .int .u8 10, .int .u8 25, .int .u8 14, .int .u8 19, .int .u8 9, .int .u8 13, .int .u8 8, .int .u8 7, .int .u8 6] t frozen
  | o => o) }
theorem ajC (os : Os) (args : Array Value) : laidMet Tryd.prog [sQ] ((QH os).forCall (fun _ _ => 0) ⟨#[], args, []⟩).memory :=
 laidMet_of_run' 8 (by kernel_rfl) (by kernel_rfl)
theorem adn (os : Os) (args : Array Value) : laidMetH Tryd.prog [sQ] ((QH os).forCall (fun _ _ => 0) ⟨#[], args, []⟩).memory :=
 laidMetH_of_parts (by rw [show ([sQ].filter fun x => x.2.handleName?.isNone) = [sQ] by kernel_rfl]; exact ajC os args) (by kernel_rfl)
end Go.Proofs.YtglbkbiphcgidaaDoor
namespace Go.Proofs.YtglbkbiphcgidaaDoor
section
section
section
open Go.ChangeShapes Go.WideShapes Go.ChangeAt Go.RowKit Go.Deep
theorem ado : Tryd.prog.cellsOf 2 = 1 := by kernel_rfl
theorem ajD : Tryd.prog.cellsOf 22 = 1 := by kernel_rfl
theorem adp : Tryd.prog.bytesOf 2 = 8 := by kernel_rfl
theorem ajE : Tryd.prog.bytesOf 22 = 24 := by kernel_rfl
theorem ajF {n : Int} (h : (Lit.int .i64 n).wf = true) : Fits n := by
 have h1 : IntKind.i64.min = -9223372036854775808 := rfl
 have h2 : IntKind.i64.max = 9223372036854775807 := rfl
 simp only [Lit.wf, Bool.and_eq_true, decide_eq_true_eq] at h
 unfold Fits
 omega
theorem adq {H : Type} {P : Program} {e : TypeId} {d : DataW H} {n : Nat} : ∀ {l : List (DataW H)}, d ∈ l → n ∈ d.weights P e → n ∈ DataW.weightsAll P e l
 | [], h, _ => by cases h
 | x :: r, h, hn => by
   simp only [DataW.weightsAll, List.mem_append]
   rcases List.mem_cons.1 h with rfl | h
   · exact Or.inl hn
   · exact Or.inr (adq h hn)
section
variable {H : Type} {enc : TypeId × Value → H} {W : World}
theorem adr (W : World) : aV W none [] := ⟨by simp, fun k hk => absurd hk (by simp), fun h => absurd h (by simp)⟩
theorem ads {a : Addr} {L cap : Nat} {Z : List Int} (hl : L ≤ cap) (hz : Z.length = cap) (hc : ∀ i, i < cap → W.cell? (a.add i) = some (.int .i64 (Z.getD i 0))) (hw : ∀ n ∈ Z, (Lit.int .i64 n).wf = true) (hb : cap * 8 ≤ reachBytes) :
 (Z.take L).length = L ∧ aV W (some a) (Z.take L) := by
 have hlen : (Z.take L).length = L := by simp; omega
 have adt : ∀ k, k < L → nth (Z.take L) k = Z.getD k 0 := fun k hk => by simp [nth, List.getD, hk]
 refine ⟨hlen, by rw [hlen]; have := reachBytes_lt; omega, fun k hk => ?_, fun h0 => ?_⟩
 · rw [hlen] at hk
   rw [adt k hk]
   refine ajF (hw _ ?_)
   rw [show Z.getD k 0 = Z[k]'(by omega) from by simp [List.getD, show k < Z.length from by omega]]
   exact List.getElem_mem _
 · rw [hlen] at h0
   obtain ⟨b, off, spot⟩ := a
   have hs : spot = none := by simpa [Addr.add] using World.cell?_spot (hc 0 (by omega))
   subst hs
   refine ⟨b, off, rfl, fun k hk => ?_⟩
   rw [hlen] at hk
   have h := hc k (by omega)
   rw [adt k hk, ← add_plain]
   exact h
theorem YA {fuel : Nat} {v : Value} {y : DataW H × List MemPlace} (h : DataW.trod enc Tryd.prog W 0 (fun _ => true) true fuel 22 [v] = some y) (hw : ∀ n ∈ y.1.weights Tryd.prog 22, n ≤ reachBytes) :
 ∃ a zs cap, v = .slice a zs.length cap ∧ aV W a zs := by
 rcases open_ints Tryd.underlying22 Tryd.underlying2 ado h with ⟨hcs, _⟩ | ⟨a, len, cap, zs, hcs, _, hl, hm, hz, hx, hcell, hwz⟩
 · simp only [List.cons.injEq, and_true] at hcs
   exact ⟨none, [], 0, hcs, adr W⟩
 · simp only [List.cons.injEq, and_true] at hcs
   simp only [if_true] at hz
   subst hx
   have hb := hw ((lits (H := H) .i64 (zs.take len)).length * 8 + (lits (H := H) .i64 (zs.drop len)).length * 8) (by simp [DataW.weights, Tryd.underlying22, adp, Nat.add_mul])
   simp only [lits, List.length_map, List.length_take, List.length_drop] at hb
   obtain ⟨h1, h2⟩ := ads hl hz (fun i hi => hcell i (by omega)) hwz (by omega)
   exact ⟨some a, _, cap, by rw [hcs, h1], h2⟩
theorem ajG {fuel : Nat} {v : Value} {y : DataW H × List MemPlace} (h : DataW.trod enc Tryd.prog W 0 (fun _ => true) true fuel 23 [v] = some y) (hw : ∀ n ∈ y.1.weights Tryd.prog 23, n ≤ reachBytes) :
 ∃ a A C ah cap, v = .slice a ah.length cap ∧ dU W a A C ah := by
 rcases open_int_rows Tryd.underlying23 Tryd.underlying22 Tryd.underlying2 ajD ado h with ⟨hcs, _⟩ | ⟨a, len, cap, A, L, C, Z, hcs, _, hl, hm, hx, hcell⟩
 · simp only [List.cons.injEq, and_true] at hcs
   exact ⟨none, fun _ => none, fun _ => 0, [], 0, hcs, by simp, fun h => absurd h (by simp), fun k hk => absurd hk (by simp)⟩
 · simp only [List.cons.injEq, and_true] at hcs
   subst hx
   have hlen : ((List.range len).map fun r => (Z r).take (L r)).length = len := by simp
   have hrow : ∀ k, k < len → row ((List.range len).map fun r => (Z r).take (L r)) k = (Z k).take (L k) := fun k hk => by simp [row, hk]
   have hb : len ≤ 17592186044416 := by
    have := hw ((((List.range len).map fun r => intRow (H := H) .i64 (A r) (L r) (Z r)).length + ((List.range (cap - len)).map fun j => intRow (H := H) .i64 (A (len + j)) (L (len + j)) (Z (len + j))).length) * 24) (by simp [DataW.weights, Tryd.underlying23, ajE])
    simp only [List.length_map, List.length_range] at this
    have := reachBytes_lt
    omega
   have hrb : ∀ r, r < len → ∀ ad, A r = some ad → C r * 8 ≤ reachBytes := fun r hr ad had => by
    have hc := hcell r (by omega)
    have := hw (C r * 8) (by
     simp only [DataW.weights, Tryd.underlying23, List.mem_cons, List.mem_append]
     refine Or.inr (Or.inl (adq (d := intRow (H := H) .i64 (A r) (L r) (Z r)) (List.mem_map.2 ⟨r, List.mem_range.2 hr, rfl⟩) ?_))
     have hcl := hc.2.1
     have hzl := hc.2.2.2.1
     have e : min (L r) (Z r).length + ((Z r).length - L r) = C r := by omega
     simp [intRow, had, DataW.weights, Tryd.underlying22, adp, lits, e])
    exact this
   have hrows : ∀ k, k < len → ((Z k).take (L k)).length = L k ∧ aV W (A k) ((Z k).take (L k)) := fun k hk => by
    obtain ⟨_, c1, c2, c3, c4, c5, c6⟩ := hcell k (by omega)
    cases hA : A k with
    | none =>
      have h0 := c5 hA
      have hz0 : Z k = [] := List.length_eq_zero_iff.1 (by omega)
      rw [hz0]
      exact ⟨by simp; omega, by simpa using adr W⟩
    | some ad =>
      exact ads c1 c3 (fun i hi => (c6 ad hA).2 i hi) c4 (hrb k hk ad hA)
   refine ⟨some a, A, C, (List.range len).map fun r => (Z r).take (L r), cap, by rw [hcs, hlen], by rw [hlen]; exact hb, fun h0 => ?_, fun k hk => ?_⟩
   · rw [hlen] at h0
     obtain ⟨b, off, spot⟩ := a
     have hs : spot = none := by simpa [Addr.add] using World.cell?_spot (hcell 0 (by omega)).1
     subst hs
     refine ⟨b, off, rfl, fun k hk => ?_⟩
     rw [hlen] at hk
     have hc := (hcell k (by omega)).1
     rw [hrow k hk, (hrows k hk).1, ← add_plain]
     exact hc
   · rw [hlen] at hk
     rw [hrow k hk]
     exact (hrows k hk).2
end
end
section
open Go.ChangeShapes Go.WideShapes Go.ChangeAt Go.RowKit Go.Deep
set_option maxRecDepth 100000 in
theorem ajH {H : Type} {enc : TypeId × Value → H} {W : World} {v : Value} {d : DataW H} {p : List MemPlace} {r : Reach} {b0 : Nat} (hv : Value.okWide Tryd.prog W r b0 22 v) (h : DataW.Trod enc Tryd.prog W 0 (fun _ => true) true 22 v d p) (hw : ∀ n ∈ d.weights Tryd.prog 22, n ≤ reachBytes) :
 ∃ a zs cap, v = .slice a zs.length cap ∧ aV W a zs := by
 obtain ⟨a, len, cap, rfl⟩ := okWide_slice Tryd.underlying22 hv
 obtain ⟨fuel, hf⟩ := h
 exact YA (y := (d, p)) (by simpa [Value.cells] using hf) hw
end
section
open Go.RowKit Go.ChangeShapes Go.Joins Go.WideShapes
set_option maxRecDepth 100000 in
theorem adu {H : Type} {enc : TypeId × Value → H} {W : World} {v : Value} {d : DataW H} {p : List MemPlace} {r : Reach} {b0 : Nat} (hv : Value.okWide Tryd.prog W r b0 27 v) (h : DataW.Trod enc Tryd.prog W 0 (fun _ => true) true 27 v d p) (hw : ∀ n ∈ d.weights Tryd.prog 27, n ≤ reachBytes) :
 ∃ O ah P, gX W v O ah P := by
 obtain ⟨cs, rfl, hsz⟩ := okWide_struct Tryd.underlying27 hv
 have hC : Tryd.prog.cellsOf 27 = 3 := by kernel_rfl
 have hA : Tryd.prog.cellsOf 25 = 2 := by kernel_rfl
 have hS : Tryd.prog.cellsOf 22 = 1 := by kernel_rfl
 have hR : Tryd.prog.cellsOf 23 = 1 := by kernel_rfl
 obtain ⟨c0, c1, c2, rfl⟩ := array3 (hsz.trans hC)
 obtain ⟨fuel, hf⟩ := h
 obtain ⟨y0, y1, n, hx, _, h0, h1⟩ := trod_struct2 Tryd.underlying27 hf
 obtain ⟨z0, z1, m, hx', _, g0, g1⟩ := trod_struct2 Tryd.underlying25 h0
 simp only [Prod.mk.injEq] at hx
 obtain ⟨rfl, rfl⟩ := hx
 subst hx'
 have k0 : DataW.trod enc Tryd.prog W 0 (fun _ => true) true m 22 [c0] = some z0 := by simpa [Value.cells, hA, hS] using g0
 have k1 : DataW.trod enc Tryd.prog W 0 (fun _ => true) true m 23 [c1] = some z1 := by simpa [Value.cells, hA, hR] using g1
 have k2 : DataW.trod enc Tryd.prog W 0 (fun _ => true) true n 22 [c2] = some y1 := by simpa [Value.cells, hS] using h1
 have hw0 : ∀ n ∈ z0.1.weights Tryd.prog 22, n ≤ reachBytes := fun n hn => hw n (by simp [DataW.weights, Tryd.underlying27, Tryd.underlying25, DataW.weightsEach, hn])
 have hw1 : ∀ n ∈ z1.1.weights Tryd.prog 23, n ≤ reachBytes := fun n hn => hw n (by simp [DataW.weights, Tryd.underlying27, Tryd.underlying25, DataW.weightsEach, hn])
 have hw2 : ∀ n ∈ y1.1.weights Tryd.prog 22, n ≤ reachBytes := fun n hn => hw n (by simp [DataW.weights, Tryd.underlying27, DataW.weightsEach, hn])
 obtain ⟨ao, O, co, rfl, hO⟩ := YA k0 hw0
 obtain ⟨an, A, C, ah, cn, rfl, hN⟩ := ajG k1 hw1
 obtain ⟨ap, P, cp, rfl, hP⟩ := YA k2 hw2
 exact ⟨O, ah, P, ao, an, ap, co, cn, cp, A, C, rfl, hO, hN, hP⟩
end
end
section
open Go.ChangeShapes Go.WideShapes Go.ChangeAt Go.RowKit Go.Deep
end
end
section
open Go.ChangeShapes Go.WideShapes Go.ChangeAt Go.RowKit Go.Deep
end
section
open Go.ChangeShapes Go.WideShapes Go.ChangeAt Go.RowKit Go.Deep
end
end Go.Proofs.YtglbkbiphcgidaaDoor
namespace Go.Proofs.YtglbkbiphcgidaaDoor
section
open Go.RowKit
theorem iP.start (w : World) {B : Nat} (hB : B ≤ w.heap.size) (n : Nat) (hn : n ≤ 1048576) : iP (w.alloc (.cells (madeCells #[.int .i64 0] n) 2)) B w.heap.size n n (fun _ => 0) := by
 have h : (w.alloc (.cells (madeCells #[.int .i64 0] n) 2)).rowIs w.heap.size 2 (dZ n fun _ => 0).length (fun i => .int .i64 (nth (dZ n fun _ => 0) i)) := by
  rw [lK]
  exact (World.rowIs_made w _ _ _).congr (fun i hi => by rw [zK hi])
 have := aF.xN (B := B) (D := (w.alloc (.cells (madeCells #[.int .i64 0] n) 2)).heap.size) h hB (by simp) (by rw [lK]; omega) (fun k hk => by rw [lK] at hk; rw [zK hk]; unfold Fits; omega)
 rw [lK] at this
 exact this
end
section
open Go.RowKit
section
variable {O : List Int} {ah : List (List Int)} {who : Int} {In G : List Int}
theorem jW.filter {n : Nat} {S : List Int} (h : jW n S) (p : Int → Bool) : jW n (S.filter p) :=
 ⟨h.once.filter p, fun x hx => h.all x (List.mem_filter.1 hx).1⟩
end
end
end Go.Proofs.YtglbkbiphcgidaaDoor
