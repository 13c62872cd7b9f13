/-
  The walk of the law FnExactPlayOf.
-/
import Derived.Test.YtaagbnogbhegdaaKitGame
import Derived.Test.YtaagbnogbhegdaaWalks1
import Derived.Test.YtaagbnogbhegdaaKitLasso
import Derived.Test.YtaagbnogbhegdaaPlaySpec
import Derived.Test.YtaagbnogbhegdaaPlayImpl
import Derived.Test.YtaagbnogbhegdaaSizes5
import Derived.Deep.RegionHeld3
namespace Go.Proofs.Ytaagbnogbhegdaa
open Go.RowKit

set_option maxHeartbeats 16000000 in
set_option maxRecDepth 100000 in
theorem lawPlayOf {w : World} {v0 : Value} {O0 : List Int} {z0 : List (List Int)} {aS1 : Option Addr} {S1 : List Int} {cs1 : Nat} {aS2 : Option Addr} {S2 : List Int} {cs2 : Nat} {n3 : Int} (h0 : ArenaAt w v0 O0 z0) (h1 : IntsAt w aS1 S1) (h2 : IntsAt w aS2 S2) :
    Calls Try.prog 10 #[v0, .slice aS1 S1.length cs1, .slice aS2 S2.length cs2, .int .i64 n3] w fun e w' => e = .returned (.bool true) ∧ Below w.heap.size w w' := by
  have H0 := Lib.hid h0
  obtain ⟨u0_0, u0_1, d0_0, d0_1, A0, C0, rfl, q0, q1⟩ := h0
  clear q0 q1
  have H1 : Hid (IntsV w (.slice aS1 S1.length cs1) S1) := ⟨_, _, rfl, h1⟩
  have hl1 := h1.len
  clear h1
  have H2 : Hid (IntsV w (.slice aS2 S2.length cs2) S2) := ⟨_, _, rfl, h2⟩
  have hl2 := h2.len
  clear h2
  obtain ⟨w1, hw1⟩ : ∃ y, y = (w.alloc (.cells #[.slice u0_0 O0.length d0_0, .slice u0_1 z0.length d0_1] 51)) := ⟨_, rfl⟩
  have HW1 := Lib.hid hw1
  have B1 : Hid (Below w.heap.size w w1) := by rw [hw1]; exact below1 _ _
  have b0 : Hid (Box2 w1 (w.heap.size) 51 (.slice u0_0 O0.length d0_0) (.slice u0_1 z0.length d0_1)) := by rw [hw1]; exact Box2.new_at (by simp) _ _ _ 
  have K1 : Hid (Keep [w1, w] w1) := ⟨Below.refl _ _, B1.out, trivial⟩
  clear hw1
  by_cases hbig1 : (1048576 : Int) < S1.length
  · go_enter Try.func10, Try.ntmps10
    go_wp2
    go_ret
    exact ⟨rfl, by rw [← HW1.out]; exact B1.out⟩
  have hsm1 : (S1.length : Int) ≤ 1048576 := by omega
  have hsmN1 : S1.length ≤ 1048576 := by omega
  clear hbig1
  by_cases hbig2 : (1048576 : Int) < S2.length
  · go_enter Try.func10, Try.ntmps10
    go_wp2
    go_ret
    exact ⟨rfl, by rw [← HW1.out]; exact B1.out⟩
  have hsm2 : (S2.length : Int) ≤ 1048576 := by omega
  have hsmN2 : S2.length ≤ 1048576 := by omega
  clear hbig2
  by_cases hs0 : (1048576 : Int) < (sizeArena O0 z0 : Int)
  · skip
    have HSn0 : Hid (∀ W, Below w.heap.size w W → Calls Try.prog 35 #[.agg #[.slice u0_0 O0.length d0_0, .slice u0_1 z0.length d0_1], .int .i64 (1048576 : Int)] W fun e w' => e = .returned (.int .i64 (-1)) ∧ Below W.heap.size W w') := fun W hb => szArena_at (leftOf_no hs0) (H0.out.below hb) (by omega) (by omega)
    clear hs0
    go_enter Try.func10, Try.ntmps10
    go_wp2_with fail
    rw [← HW1.out]
    refine (HSn0.out _ K1.out.2.1).mono ?_
    rintro e w2 ⟨rfl, hb⟩
    have Kw2 : Hid (Keep [w1, w] w2) := K1.out.step hb
    clear K1
    clear hb
    go_wp2
    go_ret
    exact ⟨rfl, Kw2.out.2.1⟩
  have hle0 : (sizeArena O0 z0 : Int) ≤ (1048576 : Int) := by omega
  obtain ⟨m0, hm0⟩ : ∃ m, leftOf (1048576 : Int) (sizeArena O0 z0) = m := ⟨_, rfl⟩
  have hmv0 : m0 = (1048576 : Int) - (sizeArena O0 z0 : Int) := by rw [← hm0]; exact leftOf_yes hle0
  have hml0 : 0 ≤ m0 := by omega
  have hmu0 : m0 ≤ 1048576 := by omega
  have HLE0 : Hid (sizeArena O0 z0 ≤ 1048576) := by simp only [Hid]; omega
  have HS0 : Hid (∀ W, Below w.heap.size w W → Calls Try.prog 35 #[.agg #[.slice u0_0 O0.length d0_0, .slice u0_1 z0.length d0_1], .int .i64 (1048576 : Int)] W fun e w' => e = .returned (.int .i64 m0) ∧ Below W.heap.size W w') := fun W hb => szArena_at hm0 (H0.out.below hb) (by omega) (by omega)
  have hn0 : z0.length ≤ 1048576 := by have := HLE0.out; unfold sizeArena at this; (try unfold sizeArena at this); omega
  clear hs0 hm0 hle0 hmv0
  have hRS := play_size (O := O0) (zss := z0) (E := S1) (D := S2) (v := n3)
  obtain ⟨rX, hrX⟩ : ∃ r, playX O0 z0 S1 S2 n3 = r := ⟨_, rfl⟩
  obtain ⟨rY, hrY⟩ : ∃ r, playY O0 z0 S1 S2 n3 = r := ⟨_, rfl⟩
  obtain ⟨rb1, hrb1⟩ : ∃ r, playB O0 z0 S1 S2 n3 = r := ⟨_, rfl⟩
  rw [hrX, hrY] at hRS
  have RSZ : Hid (sizeLasso rX rY ≤ 1048576) := hRS
  have R0 := Lib.hid (And.intro hrX (And.intro hrY hrb1))
  have hnerb1 : (rb1 != rb1) = false := by simp
  clear hrX hrY hrb1 hRS
  obtain ⟨mk0, hmk0⟩ : ∃ r : Int, (1 : Int) + (O0.length : Int) + (sumLen z0 z0.length : Int) = r := ⟨_, rfl⟩
  have MK0 := Lib.hid hmk0
  have hmkl0 : 0 ≤ mk0 := by omega
  have hmku0 : mk0 ≤ 1048577 := by have := HLE0.out; unfold sizeArena at this; (try unfold sizeArena at this); omega
  obtain ⟨mk1, hmk1⟩ : ∃ r : Int, mk0 + (S1.length : Int) = r := ⟨_, rfl⟩
  have MK1 := Lib.hid hmk1
  have hmkl1 : 0 ≤ mk1 := by omega
  have hmku1 : mk1 ≤ 2097153 := by omega
  obtain ⟨mk2, hmk2⟩ : ∃ r : Int, mk1 + (S2.length : Int) = r := ⟨_, rfl⟩
  have MK2 := Lib.hid hmk2
  have hmkl2 : 0 ≤ mk2 := by omega
  have hmku2 : mk2 ≤ 3145729 := by omega
  obtain ⟨mg, hmg⟩ : ∃ r : Int, (1 : Int) + (rX.length : Int) + (rY.length : Int) = r := ⟨_, rfl⟩
  have MG := Lib.hid hmg
  have hmg0 : 0 ≤ mg := by omega
  have hmgn : (mg != mg) = false := by simp
  clear hmg hmk0 hmk1 hmk2
  go_enter Try.func10, Try.ntmps10
  go_wp2_with fail
  rw [← HW1.out]
  refine (HS0.out _ K1.out.2.1).mono ?_
  rintro e w2 ⟨rfl, hb⟩
  have Kw2 : Hid (Keep [w1, w] w2) := K1.out.step hb
  clear K1
  clear hb
  have c0 := (b0.out.below Kw2.out.1).cell0
  have c1 := (b0.out.below Kw2.out.1).cell1
  go_wp2_with fail
  refine (toArena_own (H0.out.below Kw2.out.2.1) hn0).mono ?_
  rintro e w3 ⟨x, rfl, hu, hb⟩
  obtain ⟨pa0_0, pc0_0, pa0_1, pc0_1, hus⟩ := hu.shape2
  subst hus
  have pX0 := Lib.hid hu
  have Kw3 : Hid (Keep [w1, w] w3) := Kw2.out.step hb
  clear Kw2
  clear hu hb
  have Kaw3 : Hid (Keep [w3, w1, w] w3) := Kw3.out.add
  clear Kw3
  clear c0 c1
  go_wp2_with fail
  refine (toInts_own (H1.out.below Kaw3.out.2.2.1)).mono ?_
  rintro e w4 ⟨x, rfl, hu, hb⟩
  obtain ⟨pa1_0, pc1_0, hus⟩ := hu.shape2
  subst hus
  have pX1 := Lib.hid hu
  have Kw4 : Hid (Keep [w3, w1, w] w4) := Kaw3.out.step hb
  clear Kaw3
  clear hu hb
  have Kaw4 : Hid (Keep [w4, w3, w1, w] w4) := Kw4.out.add
  clear Kw4
  go_wp2_with fail
  refine (toInts_own (H2.out.below Kaw4.out.2.2.2.1)).mono ?_
  rintro e w5 ⟨x, rfl, hu, hb⟩
  obtain ⟨pa2_0, pc2_0, hus⟩ := hu.shape2
  subst hus
  have pX2 := Lib.hid hu
  have Kw5 : Hid (Keep [w4, w3, w1, w] w5) := Kaw4.out.step hb
  clear Kaw4
  clear hu hb
  have Kaw5 : Hid (Keep [w5, w4, w3, w1, w] w5) := Kw5.out.add
  clear Kw5
  go_wp2_with fail
  refine (specPlayOf_is pc1_0 pc2_0 R0.out (pX0.out.below Kaw5.out.2.2.1).at (pX1.out.below Kaw5.out.2.1).v.at (pX2.out.below Kaw5.out.1).v.at).mono ?_
  rintro e w6 ⟨x, rfl, hg, hb⟩
  obtain ⟨pga_0, pgc_0, pga_1, pgc_1, hus⟩ := hg.shape
  subst hus
  have pG := Lib.hid hg
  have Kw6 : Hid (Keep [w5, w4, w3, w1, w] w6) := Kaw5.out.step hb
  clear Kaw5
  clear hb hg
  have Kaw6 : Hid (Keep [w6, w5, w4, w3, w1, w] w6) := Kw6.out.add
  clear Kw6
  obtain ⟨w7, hw7⟩ : ∃ y, y = w6.alloc (.cells #[.slice pga_0 rX.length pgc_0, .slice pga_1 rY.length pgc_1] 43) := ⟨_, rfl⟩
  have Hw7 := Lib.hid hw7
  have hb : Below w6.heap.size w6 w7 := by rw [hw7]; exact below1 _ _
  have zb : Hid (Box2 w7 w6.heap.size 43 (.slice pga_0 rX.length pgc_0) (.slice pga_1 rY.length pgc_1)) := by rw [hw7]; exact Box2.new _ _ _ _ 
  have Kw7 : Hid (Keep [w6, w5, w4, w3, w1, w] w7) := Kaw6.out.step hb
  clear Kaw6
  clear hb
  have Kaw7 : Hid (Keep [w7, w6, w5, w4, w3, w1, w] w7) := Kw7.out.add
  clear Kw7
  have c0 := (b0.out.below Kaw7.out.2.2.2.2.2.1).cell0
  have c1 := (b0.out.below Kaw7.out.2.2.2.2.2.1).cell1
  rw [hw7] at c0 c1
  clear hw7
  have OW : Hid (w.heap.size ≤ w1.heap.size) := B1.out.size
  have OC : Hid (w1.heap.size ≤ w7.heap.size) := Kaw7.out.2.2.2.2.2.1.size
  have OP : Hid (w6.heap.size ≤ w7.heap.size) := Kaw7.out.2.1.size
  go_wp2_with fail
  rw [← Hw7.out]
  have HB0 : Hid (w7.heap.size ≤ w7.heap.size) := Kaw7.out.1.size
  refine (toArena_own (H0.out.below Kaw7.out.2.2.2.2.2.2.1) hn0).mono ?_
  rintro e w8 ⟨x, rfl, hu, hb⟩
  obtain ⟨xa0_0, xc0_0, xa0_1, xc0_1, hus⟩ := hu.shape2
  subst hus
  have xX0 := Lib.hid hu
  have HE0 : Hid (w7.heap.size ≤ w8.heap.size) := hb.size
  have Kw8 : Hid (Keep [w7, w6, w5, w4, w3, w1, w] w8) := Kaw7.out.step hb
  clear Kaw7
  clear hu hb
  have Kaw8 : Hid (Keep [w8, w7, w6, w5, w4, w3, w1, w] w8) := Kw8.out.add
  clear Kw8
  clear c0 c1
  obtain ⟨w9, hw9⟩ : ∃ y, y = w8.alloc (.cells #[.slice xa0_0 O0.length xc0_0, .slice xa0_1 z0.length xc0_1] 27) := ⟨_, rfl⟩
  have Hw9 := Lib.hid hw9
  have hb : Below w8.heap.size w8 w9 := by rw [hw9]; exact below1 _ _
  have xb0 : Hid (Box2 w9 w8.heap.size 27 (.slice xa0_0 O0.length xc0_0) (.slice xa0_1 z0.length xc0_1)) := by rw [hw9]; exact Box2.new _ _ _ _ 
  have Kw9 : Hid (Keep [w8, w7, w6, w5, w4, w3, w1, w] w9) := Kaw8.out.step hb
  clear Kaw8
  clear hb
  have Kaw9 : Hid (Keep [w9, w8, w7, w6, w5, w4, w3, w1, w] w9) := Kw9.out.add
  clear Kw9
  clear hw9
  go_wp2_with fail
  rw [← Hw9.out]
  have HB1 : Hid (w7.heap.size ≤ w9.heap.size) := Kaw9.out.2.2.1.size
  have HD0_1 : Hid (w8.heap.size ≤ w9.heap.size) := Kaw9.out.2.1.size
  refine (toInts_own (H1.out.below Kaw9.out.2.2.2.2.2.2.2.2.1)).mono ?_
  rintro e w10 ⟨x, rfl, hu, hb⟩
  obtain ⟨xa1_0, xc1_0, hus⟩ := hu.shape2
  subst hus
  have xX1 := Lib.hid hu
  have HE1 : Hid (w9.heap.size ≤ w10.heap.size) := hb.size
  have Kw10 : Hid (Keep [w9, w8, w7, w6, w5, w4, w3, w1, w] w10) := Kaw9.out.step hb
  clear Kaw9
  clear hu hb
  have Kaw10 : Hid (Keep [w10, w9, w8, w7, w6, w5, w4, w3, w1, w] w10) := Kw10.out.add
  clear Kw10
  go_wp2_with fail
  have HB2 : Hid (w7.heap.size ≤ w10.heap.size) := Kaw10.out.2.2.2.1.size
  have HD0_2 : Hid (w8.heap.size ≤ w10.heap.size) := Kaw10.out.2.2.1.size
  have HD1_2 : Hid (w10.heap.size ≤ w10.heap.size) := Kaw10.out.1.size
  refine (toInts_own (H2.out.below Kaw10.out.2.2.2.2.2.2.2.2.2.1)).mono ?_
  rintro e w11 ⟨x, rfl, hu, hb⟩
  obtain ⟨xa2_0, xc2_0, hus⟩ := hu.shape2
  subst hus
  have xX2 := Lib.hid hu
  have HE2 : Hid (w10.heap.size ≤ w11.heap.size) := hb.size
  have Kw11 : Hid (Keep [w10, w9, w8, w7, w6, w5, w4, w3, w1, w] w11) := Kaw10.out.step hb
  clear Kaw10
  clear hu hb
  have Kaw11 : Hid (Keep [w11, w10, w9, w8, w7, w6, w5, w4, w3, w1, w] w11) := Kw11.out.add
  clear Kw11
  have c0 := (xb0.out.below Kaw11.out.2.2.1).cell0
  have c1 := (xb0.out.below Kaw11.out.2.2.1).cell1
  go_wp2_with fail
  have HD0 : Hid (w8.heap.size ≤ w11.heap.size) := Kaw11.out.2.2.2.1.size
  have HD1 : Hid (w10.heap.size ≤ w11.heap.size) := Kaw11.out.2.1.size
  have HD2 : Hid (w11.heap.size ≤ w11.heap.size) := Kaw11.out.1.size
  refine (PlayOf_is xc1_0 xc2_0 R0.out (xX0.out.below Kaw11.out.2.2.2.1).at (xX1.out.below Kaw11.out.2.1).v.at (xX2.out.below Kaw11.out.1).v.at).mono ?_
  rintro e w12 ⟨x, rfl, hg, hb⟩
  obtain ⟨xga_0, xgc_0, xga_1, xgc_1, hus⟩ := hg.shape
  subst hus
  have xG := Lib.hid hg
  have HEG : Hid (w11.heap.size ≤ w12.heap.size) := hb.size
  have Kw12 : Hid (Keep [w11, w10, w9, w8, w7, w6, w5, w4, w3, w1, w] w12) := Kaw11.out.step hb
  clear Kaw11
  clear hb hg
  have Kaw12 : Hid (Keep [w12, w11, w10, w9, w8, w7, w6, w5, w4, w3, w1, w] w12) := Kw12.out.add
  clear Kw12
  clear c0 c1
  obtain ⟨w13, hw13⟩ : ∃ y, y = w12.alloc (.cells #[.slice xga_0 rX.length xgc_0, .slice xga_1 rY.length xgc_1] 43) := ⟨_, rfl⟩
  have Hw13 := Lib.hid hw13
  have hb : Below w12.heap.size w12 w13 := by rw [hw13]; exact below1 _ _
  have gb : Hid (Box2 w13 w12.heap.size 43 (.slice xga_0 rX.length xgc_0) (.slice xga_1 rY.length xgc_1)) := by rw [hw13]; exact Box2.new _ _ _ _ 
  have Kw13 : Hid (Keep [w12, w11, w10, w9, w8, w7, w6, w5, w4, w3, w1, w] w13) := Kaw12.out.step hb
  clear Kaw12
  clear hb
  have Kaw13 : Hid (Keep [w13, w12, w11, w10, w9, w8, w7, w6, w5, w4, w3, w1, w] w13) := Kw13.out.add
  clear Kw13
  clear hw13
  have c0 := (gb.out.below Kaw13.out.1).cell0
  have c1 := (gb.out.below Kaw13.out.1).cell1
  have c2 := (zb.out.below Kaw13.out.2.2.2.2.2.2.1).cell0
  have c3 := (zb.out.below Kaw13.out.2.2.2.2.2.2.1).cell1
  rw [Hw13.out] at c0 c1 c2 c3
  go_wp2_with fail
  rw [← Hw13.out]
  refine (eqLasso_at (xG.out.below Kaw13.out.2.1).at (pG.out.below Kaw13.out.2.2.2.2.2.2.2.1).at).mono ?_
  rintro e w14 ⟨rfl, hb⟩
  have Kw14 : Hid (Keep [w13, w12, w11, w10, w9, w8, w7, w6, w5, w4, w3, w1, w] w14) := Kaw13.out.step hb
  clear Kaw13
  clear hb
  clear c0 c1 c2 c3
  have c0 := (b0.out.below Kw14.out.2.2.2.2.2.2.2.2.2.2.2.1).cell0
  have c1 := (b0.out.below Kw14.out.2.2.2.2.2.2.2.2.2.2.2.1).cell1
  have c2 := (xb0.out.below Kw14.out.2.2.2.2.1).cell0
  have c3 := (xb0.out.below Kw14.out.2.2.2.2.1).cell1
  have Kdw14 : Hid (Keep [w13, w12, w11, w10, w9, w8, w7, w6, w5, w4, w3, w1, w] w14.drew) := Kw14.out.step (Below.refl _ _).drew
  go_wp2_with fail
  go_region_held3 (fun w' => w'.cell? ⟨w.heap.size, 0, none⟩ = some (.slice u0_0 O0.length d0_0) ∧ w'.cell? ⟨w.heap.size, 1, none⟩ = some (.slice u0_1 z0.length d0_1) ∧ w'.cell? ⟨w8.heap.size, 0, none⟩ = some (.slice xa0_0 O0.length xc0_0) ∧ w'.cell? ⟨w8.heap.size, 1, none⟩ = some (.slice xa0_1 z0.length xc0_1))
    (first
      | go_keep
      | exact ⟨d0, d1, d2, d3⟩
      | exact ⟨f0, f1, f2, f3⟩)
    (first
      | (go_at_call 37; refine (toArena_own (H0.out.below Kdw14.out.2.2.2.2.2.2.2.2.2.2.2.2.1) hn0).mono ?_; rintro e w15 ⟨x, rfl, hu, hb⟩; obtain ⟨ya0_0, yc0_0, ya0_1, yc0_1, hus⟩ := hu.shape2; subst hus; have yX0 := Lib.hid hu; have Kw15 : Hid (Keep [w13, w12, w11, w10, w9, w8, w7, w6, w5, w4, w3, w1, w] w15) := Kdw14.out.step hb; have d0 := (b0.out.below Kw15.out.2.2.2.2.2.2.2.2.2.2.2.1).cell0; have d1 := (b0.out.below Kw15.out.2.2.2.2.2.2.2.2.2.2.2.1).cell1; have d2 := (xb0.out.below Kw15.out.2.2.2.2.1).cell0; have d3 := (xb0.out.below Kw15.out.2.2.2.2.1).cell1; have Kaw15 : Hid (Keep [w15, w13, w12, w11, w10, w9, w8, w7, w6, w5, w4, w3, w1, w] w15) := Kw15.out.add; clear hu hb)
      | (go_at_call 39; refine (eqArena_at (xX0.out.below Kaw15.out.2.2.2.2.2.2.1).at (yX0.out.below Kaw15.out.1).at).mono ?_; rintro e w16 ⟨rfl, hb⟩; have Kw16 : Hid (Keep [w15, w13, w12, w11, w10, w9, w8, w7, w6, w5, w4, w3, w1, w] w16) := Kaw15.out.step hb; have f0 := (b0.out.below Kw16.out.2.2.2.2.2.2.2.2.2.2.2.2.1).cell0; have f1 := (b0.out.below Kw16.out.2.2.2.2.2.2.2.2.2.2.2.2.1).cell1; have f2 := (xb0.out.below Kw16.out.2.2.2.2.2.1).cell0; have f3 := (xb0.out.below Kw16.out.2.2.2.2.2.1).cell1; clear hb))
  clear c0 d0 f0 c1 d1 f1 c2 d2 f2 c3 d3 f3
  have Kzw16 : Hid (Keep [w13, w12, w11, w10, w9, w8, w7, w6, w5, w4, w3, w1, w] w16) := Kw16.out.2
  clear Kdw14 Kw15 Kaw15 yX0
  go_wp2_with fail
  refine (toInts_own (H1.out.below Kzw16.out.2.2.2.2.2.2.2.2.2.2.2.2.1)).mono ?_
  rintro e w17 ⟨x, rfl, hu, hb⟩
  obtain ⟨y16a1_0, y16c1_0, hus⟩ := hu.shape2
  subst hus
  have y16X1 := Lib.hid hu
  have Kw17 : Hid (Keep [w13, w12, w11, w10, w9, w8, w7, w6, w5, w4, w3, w1, w] w17) := Kzw16.out.step hb
  clear Kzw16
  clear hu hb
  have Kaw17 : Hid (Keep [w17, w13, w12, w11, w10, w9, w8, w7, w6, w5, w4, w3, w1, w] w17) := Kw17.out.add
  clear Kw17
  go_wp2_with fail
  refine (eqInts_at (xX1.out.below Kaw17.out.2.2.2.2.1).v (y16X1.out.below Kaw17.out.1).v).mono ?_
  rintro e w18 ⟨rfl, hb⟩
  have Kw18 : Hid (Keep [w17, w13, w12, w11, w10, w9, w8, w7, w6, w5, w4, w3, w1, w] w18) := Kaw17.out.step hb
  clear Kaw17
  clear hb
  go_wp2_with fail
  refine (toInts_own (H2.out.below Kw18.out.2.2.2.2.2.2.2.2.2.2.2.2.2.1)).mono ?_
  rintro e w19 ⟨x, rfl, hu, hb⟩
  obtain ⟨y18a2_0, y18c2_0, hus⟩ := hu.shape2
  subst hus
  have y18X2 := Lib.hid hu
  have Kw19 : Hid (Keep [w17, w13, w12, w11, w10, w9, w8, w7, w6, w5, w4, w3, w1, w] w19) := Kw18.out.step hb
  clear Kw18
  clear hu hb
  have Kaw19 : Hid (Keep [w19, w17, w13, w12, w11, w10, w9, w8, w7, w6, w5, w4, w3, w1, w] w19) := Kw19.out.add
  clear Kw19
  go_wp2_with fail
  refine (eqInts_at (xX2.out.below Kaw19.out.2.2.2.2.1).v (y18X2.out.below Kaw19.out.1).v).mono ?_
  rintro e w20 ⟨rfl, hb⟩
  have Kw20 : Hid (Keep [w19, w17, w13, w12, w11, w10, w9, w8, w7, w6, w5, w4, w3, w1, w] w20) := Kaw19.out.step hb
  clear Kaw19
  clear hb
  have xX0_w20 := Lib.hid (xX0.out.below Kw20.out.2.2.2.2.2.2.2.1)
  have xX1_w20 := Lib.hid (xX1.out.below Kw20.out.2.2.2.2.2.1)
  have xX2_w20 := Lib.hid (xX2.out.below Kw20.out.2.2.2.2.1)
  have xb0_w20 := Lib.hid (xb0.out.below Kw20.out.2.2.2.2.2.2.1)
  have xG_w20 := Lib.hid (xG.out.below Kw20.out.2.2.2.1)
  have gb_w20 := Lib.hid (gb.out.below Kw20.out.2.2.1)
  have KBw20 : Hid (Keep [w7, w6, w1, w] w20) := ⟨Kw20.out.2.2.2.2.2.2.2.2.1, Kw20.out.2.2.2.2.2.2.2.2.2.1, Kw20.out.2.2.2.2.2.2.2.2.2.2.2.2.2.1, Kw20.out.2.2.2.2.2.2.2.2.2.2.2.2.2.2.1, trivial⟩
  clear Kw20
  have c0 := xb0_w20.out.cell0
  have c1 := xb0_w20.out.cell1
  go_wp2_with fail
  refine (markArena_at MK0.out xX0_w20.out (by omega) (by omega) HLE0.out).mono ?_
  rintro e t21 ⟨rfl, hx, ho⟩
  have o0 := OW.out
  have o1 := OC.out
  have o2 := OP.out
  have o3 := HEG.out
  have oh0 := HB0.out
  have oe0 := HE0.out
  have od0 := HD0.out
  have oh1 := HB1.out
  have oe1 := HE1.out
  have od1 := HD1.out
  have oh2 := HB2.out
  have oe2 := HE2.out
  have od2 := HD2.out
  have oq0_1 := HD0_1.out
  have oq0_2 := HD0_2.out
  have oq1_2 := HD1_2.out
  have KOt21 : Hid (Keep [w7, w6, w1, w] t21) := KBw20.out.only ho (fun a ha b hb => by
    simp only [List.mem_cons, List.not_mem_nil, or_false] at ha
    rcases ha with rfl | rfl | rfl | rfl <;> omega)
  clear KBw20
  clear xX0_w20
  have xX1_t21 := Lib.hid (xX1_w20.out.only ho (fun g hg hb => by have := (xX1_w20.out.own.lt g hg).1; omega))
  clear xX1_w20
  have xX2_t21 := Lib.hid (xX2_w20.out.only ho (fun g hg hb => by have := (xX2_w20.out.own.lt g hg).1; omega))
  clear xX2_w20
  clear xb0_w20
  have xG_t21 := Lib.hid (xG_w20.out.only ho (fun g hg1 hg2 hb => by omega))
  clear xG_w20
  have gb_t21 := Lib.hid (gb_w20.out.only ho (fun hb => by omega))
  clear gb_w20
  clear hx ho o0 o1 o2 o3 oh0 oe0 od0 oh1 oe1 od1 oh2 oe2 od2 oq0_1 oq0_2 oq1_2 c0 c1
  go_wp2_with fail
  refine (markInts_at MK1.out xX1_t21.out (by omega) (by omega)).mono ?_
  rintro e t22 ⟨rfl, hx, ho⟩
  have o0 := OW.out
  have o1 := OC.out
  have o2 := OP.out
  have o3 := HEG.out
  have oh0 := HB0.out
  have oe0 := HE0.out
  have od0 := HD0.out
  have oh1 := HB1.out
  have oe1 := HE1.out
  have od1 := HD1.out
  have oh2 := HB2.out
  have oe2 := HE2.out
  have od2 := HD2.out
  have oq0_1 := HD0_1.out
  have oq0_2 := HD0_2.out
  have oq1_2 := HD1_2.out
  have KOt22 : Hid (Keep [w7, w6, w1, w] t22) := KOt21.out.only ho (fun a ha b hb => by
    simp only [List.mem_cons, List.not_mem_nil, or_false] at ha
    rcases ha with rfl | rfl | rfl | rfl <;> omega)
  clear KOt21
  clear xX1_t21
  have xX2_t22 := Lib.hid (xX2_t21.out.only ho (fun g hg hb => by have := (xX2_t21.out.own.lt g hg).1; omega))
  clear xX2_t21
  have xG_t22 := Lib.hid (xG_t21.out.only ho (fun g hg1 hg2 hb => by omega))
  clear xG_t21
  have gb_t22 := Lib.hid (gb_t21.out.only ho (fun hb => by omega))
  clear gb_t21
  clear hx ho o0 o1 o2 o3 oh0 oe0 od0 oh1 oe1 od1 oh2 oe2 od2 oq0_1 oq0_2 oq1_2
  go_wp2_with fail
  refine (markInts_at MK2.out xX2_t22.out (by omega) (by omega)).mono ?_
  rintro e t23 ⟨rfl, hx, ho⟩
  have o0 := OW.out
  have o1 := OC.out
  have o2 := OP.out
  have o3 := HEG.out
  have oh0 := HB0.out
  have oe0 := HE0.out
  have od0 := HD0.out
  have oh1 := HB1.out
  have oe1 := HE1.out
  have od1 := HD1.out
  have oh2 := HB2.out
  have oe2 := HE2.out
  have od2 := HD2.out
  have oq0_1 := HD0_1.out
  have oq0_2 := HD0_2.out
  have oq1_2 := HD1_2.out
  have KOt23 : Hid (Keep [w7, w6, w1, w] t23) := KOt22.out.only ho (fun a ha b hb => by
    simp only [List.mem_cons, List.not_mem_nil, or_false] at ha
    rcases ha with rfl | rfl | rfl | rfl <;> omega)
  clear KOt22
  clear xX2_t22
  have xG_t23 := Lib.hid (xG_t22.out.only ho (fun g hg1 hg2 hb => by omega))
  clear xG_t22
  have gb_t23 := Lib.hid (gb_t22.out.only ho (fun hb => by omega))
  clear gb_t22
  clear hx ho o0 o1 o2 o3 oh0 oe0 od0 oh1 oe1 od1 oh2 oe2 od2 oq0_1 oq0_2 oq1_2
  have c0 := gb_t23.out.cell0
  have c1 := gb_t23.out.cell1
  have d0 := (zb.out.below KOt23.out.1).cell0
  have d1 := (zb.out.below KOt23.out.1).cell1
  go_wp2_with fail
  refine (eqLasso_at xG_t23.out.at (pG.out.below KOt23.out.2.1).at).mono ?_
  rintro e t24 ⟨rfl, hb⟩
  have xG_t24 := Lib.hid (xG_t23.out.below hb)
  clear xG_t23
  have gb_t24 := Lib.hid (gb_t23.out.below hb)
  clear gb_t23
  have Kt24 : Hid (Keep [w7, w6, w1, w] t24) := KOt23.out.step hb
  clear KOt23
  clear hb c0 d0 c1 d1
  have c0 := gb_t24.out.cell0
  have c1 := gb_t24.out.cell1
  go_wp2_with fail
  refine (markLasso_at MG.out xG_t24.out (by omega) (by omega) RSZ.out).mono ?_
  rintro e t25 ⟨rfl, hx, ho⟩
  have o0 := OW.out
  have o1 := OC.out
  have o2 := OP.out
  have o3 := HEG.out
  have oh0 := HB0.out
  have oe0 := HE0.out
  have od0 := HD0.out
  have oh1 := HB1.out
  have oe1 := HE1.out
  have od1 := HD1.out
  have oh2 := HB2.out
  have oe2 := HE2.out
  have od2 := HD2.out
  have oq0_1 := HD0_1.out
  have oq0_2 := HD0_2.out
  have oq1_2 := HD1_2.out
  have KOt25 : Hid (Keep [w7, w6, w1, w] t25) := Kt24.out.only ho (fun a ha b hb => by
    simp only [List.mem_cons, List.not_mem_nil, or_false] at ha
    rcases ha with rfl | rfl | rfl | rfl <;> omega)
  clear Kt24
  have M := Lib.hid hx
  have gbm := Lib.hid (gb_t24.out.only ho (fun hb => by omega))
  clear hx ho o0 o1 o2 o3 oh0 oe0 od0 oh1 oe1 od1 oh2 oe2 od2 oq0_1 oq0_2 oq1_2 c0 c1
  have Kat25 : Hid (Keep [t25, w7, w6, w1, w] t25) := KOt25.out.add
  clear KOt25
  have c0 := (gbm.out.below Kat25.out.1).cell0
  have c1 := (gbm.out.below Kat25.out.1).cell1
  go_wp2_with fail
  refine (heldLasso_at MG.out (M.out.below Kat25.out.1).at (by omega) (by omega) RSZ.out).mono ?_
  rintro e t26 ⟨rfl, hb⟩
  have Kt26 : Hid (Keep [t25, w7, w6, w1, w] t26) := Kat25.out.step hb
  clear Kat25
  clear hb c0 c1
  have c0 := (b0.out.below Kt26.out.2.2.2.1).cell0
  have c1 := (b0.out.below Kt26.out.2.2.2.1).cell1
  go_wp2_with fail
  refine (toArena_own (H0.out.below Kt26.out.2.2.2.2.1) hn0).mono ?_
  rintro e w27 ⟨x, rfl, hu, hb⟩
  obtain ⟨ha0_0, hc0_0, ha0_1, hc0_1, hus⟩ := hu.shape2
  subst hus
  have hX0 := Lib.hid hu
  have Kw27 : Hid (Keep [t25, w7, w6, w1, w] w27) := Kt26.out.step hb
  clear Kt26
  clear hu hb
  have Kaw27 : Hid (Keep [w27, t25, w7, w6, w1, w] w27) := Kw27.out.add
  clear Kw27
  clear c0 c1
  go_wp2_with fail
  refine (toInts_own (H1.out.below Kaw27.out.2.2.2.2.2.1)).mono ?_
  rintro e w28 ⟨x, rfl, hu, hb⟩
  obtain ⟨ha1_0, hc1_0, hus⟩ := hu.shape2
  subst hus
  have hX1 := Lib.hid hu
  have Kw28 : Hid (Keep [w27, t25, w7, w6, w1, w] w28) := Kaw27.out.step hb
  clear Kaw27
  clear hu hb
  have Kaw28 : Hid (Keep [w28, w27, t25, w7, w6, w1, w] w28) := Kw28.out.add
  clear Kw28
  go_wp2_with fail
  refine (toInts_own (H2.out.below Kaw28.out.2.2.2.2.2.2.1)).mono ?_
  rintro e w29 ⟨x, rfl, hu, hb⟩
  obtain ⟨ha2_0, hc2_0, hus⟩ := hu.shape2
  subst hus
  have hX2 := Lib.hid hu
  have Kw29 : Hid (Keep [w28, w27, t25, w7, w6, w1, w] w29) := Kaw28.out.step hb
  clear Kaw28
  clear hu hb
  have Kaw29 : Hid (Keep [w29, w28, w27, t25, w7, w6, w1, w] w29) := Kw29.out.add
  clear Kw29
  go_wp2_with fail
  refine (PlayOf_is hc1_0 hc2_0 R0.out (hX0.out.below Kaw29.out.2.2.1).at (hX1.out.below Kaw29.out.2.1).v.at (hX2.out.below Kaw29.out.1).v.at).mono ?_
  rintro e w30 ⟨x, rfl, hg, hb⟩
  obtain ⟨hga_0, hgc_0, hga_1, hgc_1, hus⟩ := hg.shape
  subst hus
  have hG := Lib.hid hg
  have Kw30 : Hid (Keep [w29, w28, w27, t25, w7, w6, w1, w] w30) := Kaw29.out.step hb
  clear Kaw29
  clear hb hg
  have Kaw30 : Hid (Keep [w30, w29, w28, w27, t25, w7, w6, w1, w] w30) := Kw30.out.add
  clear Kw30
  obtain ⟨w31, hw31⟩ : ∃ y, y = w30.alloc (.cells #[.slice hga_0 rX.length hgc_0, .slice hga_1 rY.length hgc_1] 43) := ⟨_, rfl⟩
  have Hw31 := Lib.hid hw31
  have hb : Below w30.heap.size w30 w31 := by rw [hw31]; exact below1 _ _
  have hbx : Hid (Box2 w31 w30.heap.size 43 (.slice hga_0 rX.length hgc_0) (.slice hga_1 rY.length hgc_1)) := by rw [hw31]; exact Box2.new _ _ _ _ 
  have Kw31 : Hid (Keep [w30, w29, w28, w27, t25, w7, w6, w1, w] w31) := Kaw30.out.step hb
  clear Kaw30
  clear hb
  have Kaw31 : Hid (Keep [w31, w30, w29, w28, w27, t25, w7, w6, w1, w] w31) := Kw31.out.add
  clear Kw31
  clear hw31
  have c0 := (hbx.out.below Kaw31.out.1).cell0
  have c1 := (hbx.out.below Kaw31.out.1).cell1
  have c2 := (zb.out.below Kaw31.out.2.2.2.2.2.2.1).cell0
  have c3 := (zb.out.below Kaw31.out.2.2.2.2.2.2.1).cell1
  rw [Hw31.out] at c0 c1 c2 c3
  go_wp2_with fail
  rw [← Hw31.out]
  refine (eqLasso_at (hG.out.below Kaw31.out.2.1).at (pG.out.below Kaw31.out.2.2.2.2.2.2.2.1).at).mono ?_
  rintro e w32 ⟨rfl, hb⟩
  have Kw32 : Hid (Keep [w31, w30, w29, w28, w27, t25, w7, w6, w1, w] w32) := Kaw31.out.step hb
  clear Kaw31
  clear hb
  clear c0 c1 c2 c3
  have c0 := (gbm.out.below Kw32.out.2.2.2.2.2.1).cell0
  have c1 := (gbm.out.below Kw32.out.2.2.2.2.2.1).cell1
  go_wp2_with fail
  refine (heldLasso_at MG.out (M.out.below Kw32.out.2.2.2.2.2.1).at (by omega) (by omega) RSZ.out).mono ?_
  rintro e t33 ⟨rfl, hb⟩
  have Kt33 : Hid (Keep [w31, w30, w29, w28, w27, t25, w7, w6, w1, w] t33) := Kw32.out.step hb
  clear Kw32
  clear hb c0 c1
  go_wp2
  go_ret
  exact ⟨rfl, Kt33.out.2.2.2.2.2.2.2.2.2.1⟩

end Go.Proofs.Ytaagbnogbhegdaa
