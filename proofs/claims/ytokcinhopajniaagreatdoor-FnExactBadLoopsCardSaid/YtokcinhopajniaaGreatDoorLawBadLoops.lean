/-
  The walk of the law FnExactBadLoops.
-/
import Derived.Test.YtokcinhopajniaaGreatDoorKitGame
import Derived.Test.YtokcinhopajniaaGreatDoorWalks1
import Derived.Test.YtokcinhopajniaaGreatDoorWinsSpec
import Derived.Test.YtokcinhopajniaaGreatDoorCheckImpl
import Derived.Deep.RegionHeld3
namespace Go.Proofs.YtokcinhopajniaaGreatDoor
open Go.RowKit

set_option maxHeartbeats 16000000 in
set_option maxRecDepth 100000 in
theorem lawBadLoops {w : World} {v0 : Value} {O0 : List Int} {z0 : List (List Int)} {P0 : List Int} {n1 : Int} {aS2 : Option Addr} {S2 : List Int} {cs2 : Nat} {aS3 : Option Addr} {S3 : List Int} {cs3 : Nat} (h0 : GameAt w v0 O0 z0 P0) (h2 : IntsAt w aS2 S2) (h3 : IntsAt w aS3 S3) (hE : ErrB w) :
    Calls Tryz.prog 4 #[v0, .int .i64 n1, .slice aS2 S2.length cs2, .slice aS3 S3.length cs3] w fun e w' => e = .returned (.bool true) ∧ Below w.heap.size w w' := by
  have HE := Lib.hid hE
  clear hE
  have H0 := Lib.hid h0
  obtain ⟨u0_0, u0_1, u0_2, d0_0, d0_1, d0_2, A0, C0, rfl, q0, q1, q2⟩ := h0
  clear q0 q1 q2
  have H2 : Hid (IntsV w (.slice aS2 S2.length cs2) S2) := ⟨_, _, rfl, h2⟩
  have hl2 := h2.len
  clear h2
  have H3 : Hid (IntsV w (.slice aS3 S3.length cs3) S3) := ⟨_, _, rfl, h3⟩
  have hl3 := h3.len
  clear h3
  obtain ⟨w1, hw1⟩ : ∃ y, y = (w.alloc (.cells #[.slice u0_0 O0.length d0_0, .slice u0_1 z0.length d0_1, .slice u0_2 P0.length d0_2] 47)) := ⟨_, rfl⟩
  have HW1 := Lib.hid hw1
  have B1 : Hid (Below w.heap.size w w1) := by rw [hw1]; exact below1 _ _
  have b0 : Hid (Box3 w1 (w.heap.size) 47 (.slice u0_0 O0.length d0_0) (.slice u0_1 z0.length d0_1) (.slice u0_2 P0.length d0_2)) := by rw [hw1]; exact Box3.new_at (by simp) _ _ _ _ 
  have K1 : Hid (Keep [w1, w] w1) := ⟨Below.refl _ _, B1.out, trivial⟩
  clear hw1
  by_cases hbig2 : (1048576 : Int) < S2.length
  · go_enter Tryz.func4, Tryz.ntmps4
    go_wp2
    go_ret
    exact ⟨rfl, by rw [← HW1.out]; exact B1.out⟩
  have hsm2 : (S2.length : Int) ≤ 1048576 := by omega
  have hsmN2 : S2.length ≤ 1048576 := by omega
  clear hbig2
  by_cases hbig3 : (1048576 : Int) < S3.length
  · go_enter Tryz.func4, Tryz.ntmps4
    go_wp2
    go_ret
    exact ⟨rfl, by rw [← HW1.out]; exact B1.out⟩
  have hsm3 : (S3.length : Int) ≤ 1048576 := by omega
  have hsmN3 : S3.length ≤ 1048576 := by omega
  clear hbig3
  by_cases hs0 : (1048576 : Int) < (sizeGame O0 z0 P0 : Int)
  · skip
    have HSn0 : Hid (∀ W, Below w.heap.size w W → Calls Tryz.prog 22 #[.agg #[.slice u0_0 O0.length d0_0, .slice u0_1 z0.length d0_1, .slice u0_2 P0.length d0_2], .int .i64 (1048576 : Int)] W fun e w' => e = .returned (.int .i64 (-1)) ∧ Below W.heap.size W w') := fun W hb => szGame_at (leftOf_no hs0) (H0.out.below hb) (by omega) (by omega)
    clear hs0
    go_enter Tryz.func4, Tryz.ntmps4
    go_wp2_with fail
    rw [← HW1.out]
    refine (HSn0.out _ K1.out.2.1).mono ?_
    rintro e w2 ⟨rfl, hb⟩
    have Kw2 : Hid (Keep [w1, w] w2) := K1.out.step hb
    clear K1
    clear hb
    go_wp2
    go_ret
    exact ⟨rfl, Kw2.out.2.1⟩
  have hle0 : (sizeGame O0 z0 P0 : Int) ≤ (1048576 : Int) := by omega
  obtain ⟨m0, hm0⟩ : ∃ m, leftOf (1048576 : Int) (sizeGame O0 z0 P0) = m := ⟨_, rfl⟩
  have hmv0 : m0 = (1048576 : Int) - (sizeGame O0 z0 P0 : Int) := by rw [← hm0]; exact leftOf_yes hle0
  have hml0 : 0 ≤ m0 := by omega
  have hmu0 : m0 ≤ 1048576 := by omega
  have HLE0 : Hid (sizeGame O0 z0 P0 ≤ 1048576) := by simp only [Hid]; omega
  have HS0 : Hid (∀ W, Below w.heap.size w W → Calls Tryz.prog 22 #[.agg #[.slice u0_0 O0.length d0_0, .slice u0_1 z0.length d0_1, .slice u0_2 P0.length d0_2], .int .i64 (1048576 : Int)] W fun e w' => e = .returned (.int .i64 m0) ∧ Below W.heap.size W w') := fun W hb => szGame_at hm0 (H0.out.below hb) (by omega) (by omega)
  have hn0 : z0.length ≤ 1048576 := by have := HLE0.out; unfold sizeGame at this; (try unfold sizeArena at this); omega
  clear hs0 hm0 hle0 hmv0
  obtain ⟨rS, hrS⟩ : ∃ r, badL O0 z0 P0 n1 S2 S3 = r := ⟨_, rfl⟩
  have R0 := Lib.hid hrS
  clear hrS
  obtain ⟨mk0, hmk0⟩ : ∃ r : Int, (1 : Int) + (O0.length : Int) + (sumLen z0 z0.length : Int) + (P0.length : Int) = r := ⟨_, rfl⟩
  have MK0 := Lib.hid hmk0
  have hmkl0 : 0 ≤ mk0 := by omega
  have hmku0 : mk0 ≤ 1048577 := by have := HLE0.out; unfold sizeGame at this; (try unfold sizeArena at this); omega
  obtain ⟨mk2, hmk2⟩ : ∃ r : Int, mk0 + (S2.length : Int) = r := ⟨_, rfl⟩
  have MK2 := Lib.hid hmk2
  have hmkl2 : 0 ≤ mk2 := by omega
  have hmku2 : mk2 ≤ 2097153 := by omega
  obtain ⟨mk3, hmk3⟩ : ∃ r : Int, mk2 + (S3.length : Int) = r := ⟨_, rfl⟩
  have MK3 := Lib.hid hmk3
  have hmkl3 : 0 ≤ mk3 := by omega
  have hmku3 : mk3 ≤ 3145729 := by omega
  obtain ⟨mg, hmg⟩ : ∃ r : Int, (1 : Int) + (rS.length : Int) = r := ⟨_, rfl⟩
  have MG := Lib.hid hmg
  have hmg0 : 0 ≤ mg := by omega
  have hmgn : (mg != mg) = false := by simp
  clear hmg hmk0 hmk2 hmk3
  go_enter Tryz.func4, Tryz.ntmps4
  go_wp2_with fail
  rw [← HW1.out]
  refine (HS0.out _ K1.out.2.1).mono ?_
  rintro e w2 ⟨rfl, hb⟩
  have Kw2 : Hid (Keep [w1, w] w2) := K1.out.step hb
  clear K1
  clear hb
  have c0 := (b0.out.below Kw2.out.1).c0
  have c1 := (b0.out.below Kw2.out.1).c1
  have c2 := (b0.out.below Kw2.out.1).c2
  go_wp2_with fail
  refine (toGame_at (H0.out.below Kw2.out.2.1) hn0).mono ?_
  rintro e w3 ⟨x, rfl, hu, hb⟩
  obtain ⟨pa0_0, pc0_0, pa0_1, pc0_1, pa0_2, pc0_2, hus⟩ := hu.shape
  subst hus
  have pX0 := Lib.hid hu
  have Kw3 : Hid (Keep [w1, w] w3) := Kw2.out.step hb
  clear Kw2
  clear hu hb
  have Kaw3 : Hid (Keep [w3, w1, w] w3) := Kw3.out.add
  clear Kw3
  clear c0 c1 c2
  go_wp2_with fail
  refine (toInts_own (H2.out.below Kaw3.out.2.2.1)).mono ?_
  rintro e w4 ⟨x, rfl, hu, hb⟩
  obtain ⟨pa2_0, pc2_0, hus⟩ := hu.shape2
  subst hus
  have pX2 := Lib.hid hu
  have Kw4 : Hid (Keep [w3, w1, w] w4) := Kaw3.out.step hb
  clear Kaw3
  clear hu hb
  have Kaw4 : Hid (Keep [w4, w3, w1, w] w4) := Kw4.out.add
  clear Kw4
  go_wp2_with fail
  refine (toInts_own (H3.out.below Kaw4.out.2.2.2.1)).mono ?_
  rintro e w5 ⟨x, rfl, hu, hb⟩
  obtain ⟨pa3_0, pc3_0, hus⟩ := hu.shape2
  subst hus
  have pX3 := Lib.hid hu
  have Kw5 : Hid (Keep [w4, w3, w1, w] w5) := Kaw4.out.step hb
  clear Kaw4
  clear hu hb
  have Kaw5 : Hid (Keep [w5, w4, w3, w1, w] w5) := Kw5.out.add
  clear Kw5
  go_wp2_with fail
  refine (specBadLoops_is pc2_0 pc3_0 R0.out (pX0.out.below Kaw5.out.2.2.1).at (pX2.out.below Kaw5.out.2.1).v.at (pX3.out.below Kaw5.out.1).v.at).mono ?_
  rintro e w6 ⟨x, rfl, hg, hb⟩
  obtain ⟨pga_0, pgc_0, hus⟩ := hg.shape2
  subst hus
  have pG := Lib.hid hg
  have Kw6 : Hid (Keep [w5, w4, w3, w1, w] w6) := Kaw5.out.step hb
  clear Kaw5
  clear hb hg
  have Kaw6 : Hid (Keep [w6, w5, w4, w3, w1, w] w6) := Kw6.out.add
  clear Kw6
  have OW : Hid (w.heap.size ≤ w1.heap.size) := B1.out.size
  have OC : Hid (w1.heap.size ≤ w6.heap.size) := Kaw6.out.2.2.2.2.1.size
  have OP : Hid (w6.heap.size ≤ w6.heap.size) := Kaw6.out.1.size
  have c0 := (b0.out.below Kaw6.out.2.2.2.2.1).c0
  have c1 := (b0.out.below Kaw6.out.2.2.2.2.1).c1
  have c2 := (b0.out.below Kaw6.out.2.2.2.2.1).c2
  go_wp2_with fail
  have HB0 : Hid (w6.heap.size ≤ w6.heap.size) := Kaw6.out.1.size
  refine (toGame_at (H0.out.below Kaw6.out.2.2.2.2.2.1) hn0).mono ?_
  rintro e w7 ⟨x, rfl, hu, hb⟩
  obtain ⟨xa0_0, xc0_0, xa0_1, xc0_1, xa0_2, xc0_2, hus⟩ := hu.shape
  subst hus
  have xX0 := Lib.hid hu
  have HE0 : Hid (w6.heap.size ≤ w7.heap.size) := hb.size
  have Kw7 : Hid (Keep [w6, w5, w4, w3, w1, w] w7) := Kaw6.out.step hb
  clear Kaw6
  clear hu hb
  have Kaw7 : Hid (Keep [w7, w6, w5, w4, w3, w1, w] w7) := Kw7.out.add
  clear Kw7
  clear c0 c1 c2
  obtain ⟨w8, hw8⟩ : ∃ y, y = w7.alloc (.cells #[.slice xa0_0 O0.length xc0_0, .slice xa0_1 z0.length xc0_1, .slice xa0_2 P0.length xc0_2] 32) := ⟨_, rfl⟩
  have Hw8 := Lib.hid hw8
  have hb : Below w7.heap.size w7 w8 := by rw [hw8]; exact below1 _ _
  have xb0 : Hid (Box3 w8 w7.heap.size 32 (.slice xa0_0 O0.length xc0_0) (.slice xa0_1 z0.length xc0_1) (.slice xa0_2 P0.length xc0_2)) := by rw [hw8]; exact Box3.new _ _ _ _ _ 
  have Kw8 : Hid (Keep [w7, w6, w5, w4, w3, w1, w] w8) := Kaw7.out.step hb
  clear Kaw7
  clear hb
  have Kaw8 : Hid (Keep [w8, w7, w6, w5, w4, w3, w1, w] w8) := Kw8.out.add
  clear Kw8
  clear hw8
  go_wp2_with fail
  rw [← Hw8.out]
  have HB2 : Hid (w6.heap.size ≤ w8.heap.size) := Kaw8.out.2.2.1.size
  have HD0_2 : Hid (w7.heap.size ≤ w8.heap.size) := Kaw8.out.2.1.size
  refine (toInts_own (H2.out.below Kaw8.out.2.2.2.2.2.2.2.1)).mono ?_
  rintro e w9 ⟨x, rfl, hu, hb⟩
  obtain ⟨xa2_0, xc2_0, hus⟩ := hu.shape2
  subst hus
  have xX2 := Lib.hid hu
  have HE2 : Hid (w8.heap.size ≤ w9.heap.size) := hb.size
  have Kw9 : Hid (Keep [w8, w7, w6, w5, w4, w3, w1, w] w9) := Kaw8.out.step hb
  clear Kaw8
  clear hu hb
  have Kaw9 : Hid (Keep [w9, w8, w7, w6, w5, w4, w3, w1, w] w9) := Kw9.out.add
  clear Kw9
  go_wp2_with fail
  have HB3 : Hid (w6.heap.size ≤ w9.heap.size) := Kaw9.out.2.2.2.1.size
  have HD0_3 : Hid (w7.heap.size ≤ w9.heap.size) := Kaw9.out.2.2.1.size
  have HD2_3 : Hid (w9.heap.size ≤ w9.heap.size) := Kaw9.out.1.size
  refine (toInts_own (H3.out.below Kaw9.out.2.2.2.2.2.2.2.2.1)).mono ?_
  rintro e w10 ⟨x, rfl, hu, hb⟩
  obtain ⟨xa3_0, xc3_0, hus⟩ := hu.shape2
  subst hus
  have xX3 := Lib.hid hu
  have HE3 : Hid (w9.heap.size ≤ w10.heap.size) := hb.size
  have Kw10 : Hid (Keep [w9, w8, w7, w6, w5, w4, w3, w1, w] w10) := Kaw9.out.step hb
  clear Kaw9
  clear hu hb
  have Kaw10 : Hid (Keep [w10, w9, w8, w7, w6, w5, w4, w3, w1, w] w10) := Kw10.out.add
  clear Kw10
  have c0 := (xb0.out.below Kaw10.out.2.2.1).c0
  have c1 := (xb0.out.below Kaw10.out.2.2.1).c1
  have c2 := (xb0.out.below Kaw10.out.2.2.1).c2
  go_wp2_with fail
  have HD0 : Hid (w7.heap.size ≤ w10.heap.size) := Kaw10.out.2.2.2.1.size
  have HD2 : Hid (w9.heap.size ≤ w10.heap.size) := Kaw10.out.2.1.size
  have HD3 : Hid (w10.heap.size ≤ w10.heap.size) := Kaw10.out.1.size
  refine (BadLoops_is (HE.out.below Kaw10.out.2.2.2.2.2.2.2.2.2.1) xc2_0 xc3_0 R0.out (xX0.out.below Kaw10.out.2.2.2.1).at (xX2.out.below Kaw10.out.2.1).v.at (xX3.out.below Kaw10.out.1).v.at).mono ?_
  rintro e w11 ⟨x, rfl, hg, hb⟩
  obtain ⟨xga_0, xgc_0, hus⟩ := hg.shape2
  subst hus
  have xG := Lib.hid hg
  have HEG : Hid (w10.heap.size ≤ w11.heap.size) := hb.size
  have Kw11 : Hid (Keep [w10, w9, w8, w7, w6, w5, w4, w3, w1, w] w11) := Kaw10.out.step hb
  clear Kaw10
  clear hb hg
  have Kaw11 : Hid (Keep [w11, w10, w9, w8, w7, w6, w5, w4, w3, w1, w] w11) := Kw11.out.add
  clear Kw11
  clear c0 c1 c2
  go_wp2_with fail
  refine (eqInts_at (xG.out.below Kaw11.out.1).v (pG.out.below Kaw11.out.2.2.2.2.2.1).v).mono ?_
  rintro e w12 ⟨rfl, hb⟩
  have Kw12 : Hid (Keep [w11, w10, w9, w8, w7, w6, w5, w4, w3, w1, w] w12) := Kaw11.out.step hb
  clear Kaw11
  clear hb
  have c0 := (b0.out.below Kw12.out.2.2.2.2.2.2.2.2.2.1).c0
  have c1 := (b0.out.below Kw12.out.2.2.2.2.2.2.2.2.2.1).c1
  have c2 := (b0.out.below Kw12.out.2.2.2.2.2.2.2.2.2.1).c2
  have c3 := (xb0.out.below Kw12.out.2.2.2.1).c0
  have c4 := (xb0.out.below Kw12.out.2.2.2.1).c1
  have c5 := (xb0.out.below Kw12.out.2.2.2.1).c2
  have Kdw12 : Hid (Keep [w11, w10, w9, w8, w7, w6, w5, w4, w3, w1, w] w12.drew) := Kw12.out.step (Below.refl _ _).drew
  go_wp2_with fail
  go_region_held3 (fun w' => w'.cell? ⟨w.heap.size, 0, none⟩ = some (.slice u0_0 O0.length d0_0) ∧ w'.cell? ⟨w.heap.size, 1, none⟩ = some (.slice u0_1 z0.length d0_1) ∧ w'.cell? ⟨w.heap.size, 2, none⟩ = some (.slice u0_2 P0.length d0_2) ∧ w'.cell? ⟨w7.heap.size, 0, none⟩ = some (.slice xa0_0 O0.length xc0_0) ∧ w'.cell? ⟨w7.heap.size, 1, none⟩ = some (.slice xa0_1 z0.length xc0_1) ∧ w'.cell? ⟨w7.heap.size, 2, none⟩ = some (.slice xa0_2 P0.length xc0_2))
    (first
      | go_keep
      | exact ⟨d0, d1, d2, d3, d4, d5⟩
      | exact ⟨f0, f1, f2, f3, f4, f5⟩)
    (first
      | (go_at_call 23; refine (toGame_at (H0.out.below Kdw12.out.2.2.2.2.2.2.2.2.2.2.1) hn0).mono ?_; rintro e w13 ⟨x, rfl, hu, hb⟩; obtain ⟨ya0_0, yc0_0, ya0_1, yc0_1, ya0_2, yc0_2, hus⟩ := hu.shape; subst hus; have yX0 := Lib.hid hu; have Kw13 : Hid (Keep [w11, w10, w9, w8, w7, w6, w5, w4, w3, w1, w] w13) := Kdw12.out.step hb; have d0 := (b0.out.below Kw13.out.2.2.2.2.2.2.2.2.2.1).c0; have d1 := (b0.out.below Kw13.out.2.2.2.2.2.2.2.2.2.1).c1; have d2 := (b0.out.below Kw13.out.2.2.2.2.2.2.2.2.2.1).c2; have d3 := (xb0.out.below Kw13.out.2.2.2.1).c0; have d4 := (xb0.out.below Kw13.out.2.2.2.1).c1; have d5 := (xb0.out.below Kw13.out.2.2.2.1).c2; have Kaw13 : Hid (Keep [w13, w11, w10, w9, w8, w7, w6, w5, w4, w3, w1, w] w13) := Kw13.out.add; clear hu hb)
      | (go_at_call 26; refine (eqGame_at (xX0.out.below Kaw13.out.2.2.2.2.2.1).at (yX0.out.below Kaw13.out.1).at).mono ?_; rintro e w14 ⟨rfl, hb⟩; have Kw14 : Hid (Keep [w13, w11, w10, w9, w8, w7, w6, w5, w4, w3, w1, w] w14) := Kaw13.out.step hb; have f0 := (b0.out.below Kw14.out.2.2.2.2.2.2.2.2.2.2.1).c0; have f1 := (b0.out.below Kw14.out.2.2.2.2.2.2.2.2.2.2.1).c1; have f2 := (b0.out.below Kw14.out.2.2.2.2.2.2.2.2.2.2.1).c2; have f3 := (xb0.out.below Kw14.out.2.2.2.2.1).c0; have f4 := (xb0.out.below Kw14.out.2.2.2.2.1).c1; have f5 := (xb0.out.below Kw14.out.2.2.2.2.1).c2; clear hb))
  clear c0 d0 f0 c1 d1 f1 c2 d2 f2 c3 d3 f3 c4 d4 f4 c5 d5 f5
  have Kzw14 : Hid (Keep [w11, w10, w9, w8, w7, w6, w5, w4, w3, w1, w] w14) := Kw14.out.2
  clear Kdw12 Kw13 Kaw13 yX0
  go_wp2_with fail
  refine (toInts_own (H2.out.below Kzw14.out.2.2.2.2.2.2.2.2.2.2.1)).mono ?_
  rintro e w15 ⟨x, rfl, hu, hb⟩
  obtain ⟨y14a2_0, y14c2_0, hus⟩ := hu.shape2
  subst hus
  have y14X2 := Lib.hid hu
  have Kw15 : Hid (Keep [w11, w10, w9, w8, w7, w6, w5, w4, w3, w1, w] w15) := Kzw14.out.step hb
  clear Kzw14
  clear hu hb
  have Kaw15 : Hid (Keep [w15, w11, w10, w9, w8, w7, w6, w5, w4, w3, w1, w] w15) := Kw15.out.add
  clear Kw15
  go_wp2_with fail
  refine (eqInts_at (xX2.out.below Kaw15.out.2.2.2.1).v (y14X2.out.below Kaw15.out.1).v).mono ?_
  rintro e w16 ⟨rfl, hb⟩
  have Kw16 : Hid (Keep [w15, w11, w10, w9, w8, w7, w6, w5, w4, w3, w1, w] w16) := Kaw15.out.step hb
  clear Kaw15
  clear hb
  go_wp2_with fail
  refine (toInts_own (H3.out.below Kw16.out.2.2.2.2.2.2.2.2.2.2.2.1)).mono ?_
  rintro e w17 ⟨x, rfl, hu, hb⟩
  obtain ⟨y16a3_0, y16c3_0, hus⟩ := hu.shape2
  subst hus
  have y16X3 := Lib.hid hu
  have Kw17 : Hid (Keep [w15, w11, w10, w9, w8, w7, w6, w5, w4, w3, w1, w] w17) := Kw16.out.step hb
  clear Kw16
  clear hu hb
  have Kaw17 : Hid (Keep [w17, w15, w11, w10, w9, w8, w7, w6, w5, w4, w3, w1, w] w17) := Kw17.out.add
  clear Kw17
  go_wp2_with fail
  refine (eqInts_at (xX3.out.below Kaw17.out.2.2.2.1).v (y16X3.out.below Kaw17.out.1).v).mono ?_
  rintro e w18 ⟨rfl, hb⟩
  have Kw18 : Hid (Keep [w17, w15, w11, w10, w9, w8, w7, w6, w5, w4, w3, w1, w] w18) := Kaw17.out.step hb
  clear Kaw17
  clear hb
  have xX0_w18 := Lib.hid (xX0.out.below Kw18.out.2.2.2.2.2.2.1)
  have xX2_w18 := Lib.hid (xX2.out.below Kw18.out.2.2.2.2.1)
  have xX3_w18 := Lib.hid (xX3.out.below Kw18.out.2.2.2.1)
  have xb0_w18 := Lib.hid (xb0.out.below Kw18.out.2.2.2.2.2.1)
  have xG_w18 := Lib.hid (xG.out.below Kw18.out.2.2.1)
  have KBw18 : Hid (Keep [w6, w1, w] w18) := ⟨Kw18.out.2.2.2.2.2.2.2.1, Kw18.out.2.2.2.2.2.2.2.2.2.2.2.1, Kw18.out.2.2.2.2.2.2.2.2.2.2.2.2.1, trivial⟩
  clear Kw18
  have c0 := xb0_w18.out.c0
  have c1 := xb0_w18.out.c1
  have c2 := xb0_w18.out.c2
  go_wp2_with fail
  refine (markGame_at MK0.out xX0_w18.out (by omega) (by omega) HLE0.out).mono ?_
  rintro e t19 ⟨rfl, hx, ho⟩
  have o0 := OW.out
  have o1 := OC.out
  have o2 := OP.out
  have o3 := HEG.out
  have oh0 := HB0.out
  have oe0 := HE0.out
  have od0 := HD0.out
  have oh2 := HB2.out
  have oe2 := HE2.out
  have od2 := HD2.out
  have oh3 := HB3.out
  have oe3 := HE3.out
  have od3 := HD3.out
  have oq0_2 := HD0_2.out
  have oq0_3 := HD0_3.out
  have oq2_3 := HD2_3.out
  have KOt19 : Hid (Keep [w6, w1, w] t19) := KBw18.out.only ho (fun a ha b hb => by
    simp only [List.mem_cons, List.not_mem_nil, or_false] at ha
    rcases ha with rfl | rfl | rfl <;> omega)
  clear KBw18
  clear xX0_w18
  have xX2_t19 := Lib.hid (xX2_w18.out.only ho (fun g hg hb => by have := (xX2_w18.out.own.lt g hg).1; omega))
  clear xX2_w18
  have xX3_t19 := Lib.hid (xX3_w18.out.only ho (fun g hg hb => by have := (xX3_w18.out.own.lt g hg).1; omega))
  clear xX3_w18
  clear xb0_w18
  have xG_t19 := Lib.hid (xG_w18.out.only ho (fun g hg hb => by have := (xG_w18.out.own.lt g hg).1; omega))
  clear xG_w18
  clear hx ho o0 o1 o2 o3 oh0 oe0 od0 oh2 oe2 od2 oh3 oe3 od3 oq0_2 oq0_3 oq2_3 c0 c1 c2
  go_wp2_with fail
  refine (markInts_at MK2.out xX2_t19.out (by omega) (by omega)).mono ?_
  rintro e t20 ⟨rfl, hx, ho⟩
  have o0 := OW.out
  have o1 := OC.out
  have o2 := OP.out
  have o3 := HEG.out
  have oh0 := HB0.out
  have oe0 := HE0.out
  have od0 := HD0.out
  have oh2 := HB2.out
  have oe2 := HE2.out
  have od2 := HD2.out
  have oh3 := HB3.out
  have oe3 := HE3.out
  have od3 := HD3.out
  have oq0_2 := HD0_2.out
  have oq0_3 := HD0_3.out
  have oq2_3 := HD2_3.out
  have KOt20 : Hid (Keep [w6, w1, w] t20) := KOt19.out.only ho (fun a ha b hb => by
    simp only [List.mem_cons, List.not_mem_nil, or_false] at ha
    rcases ha with rfl | rfl | rfl <;> omega)
  clear KOt19
  clear xX2_t19
  have xX3_t20 := Lib.hid (xX3_t19.out.only ho (fun g hg hb => by have := (xX3_t19.out.own.lt g hg).1; omega))
  clear xX3_t19
  have xG_t20 := Lib.hid (xG_t19.out.only ho (fun g hg hb => by have := (xG_t19.out.own.lt g hg).1; omega))
  clear xG_t19
  clear hx ho o0 o1 o2 o3 oh0 oe0 od0 oh2 oe2 od2 oh3 oe3 od3 oq0_2 oq0_3 oq2_3
  go_wp2_with fail
  refine (markInts_at MK3.out xX3_t20.out (by omega) (by omega)).mono ?_
  rintro e t21 ⟨rfl, hx, ho⟩
  have o0 := OW.out
  have o1 := OC.out
  have o2 := OP.out
  have o3 := HEG.out
  have oh0 := HB0.out
  have oe0 := HE0.out
  have od0 := HD0.out
  have oh2 := HB2.out
  have oe2 := HE2.out
  have od2 := HD2.out
  have oh3 := HB3.out
  have oe3 := HE3.out
  have od3 := HD3.out
  have oq0_2 := HD0_2.out
  have oq0_3 := HD0_3.out
  have oq2_3 := HD2_3.out
  have KOt21 : Hid (Keep [w6, w1, w] t21) := KOt20.out.only ho (fun a ha b hb => by
    simp only [List.mem_cons, List.not_mem_nil, or_false] at ha
    rcases ha with rfl | rfl | rfl <;> omega)
  clear KOt20
  clear xX3_t20
  have xG_t21 := Lib.hid (xG_t20.out.only ho (fun g hg hb => by have := (xG_t20.out.own.lt g hg).1; omega))
  clear xG_t20
  clear hx ho o0 o1 o2 o3 oh0 oe0 od0 oh2 oe2 od2 oh3 oe3 od3 oq0_2 oq0_3 oq2_3
  go_wp2_with fail
  refine (eqInts_at xG_t21.out.v (pG.out.below KOt21.out.1).v).mono ?_
  rintro e t22 ⟨rfl, hb⟩
  have xG_t22 := Lib.hid (xG_t21.out.below hb)
  clear xG_t21
  have Kt22 : Hid (Keep [w6, w1, w] t22) := KOt21.out.step hb
  clear KOt21
  clear hb
  go_wp2_with fail
  refine (markInts_at MG.out xG_t22.out (by omega) (by omega)).mono ?_
  rintro e t23 ⟨rfl, hx, ho⟩
  have o0 := OW.out
  have o1 := OC.out
  have o2 := OP.out
  have o3 := HEG.out
  have oh0 := HB0.out
  have oe0 := HE0.out
  have od0 := HD0.out
  have oh2 := HB2.out
  have oe2 := HE2.out
  have od2 := HD2.out
  have oh3 := HB3.out
  have oe3 := HE3.out
  have od3 := HD3.out
  have oq0_2 := HD0_2.out
  have oq0_3 := HD0_3.out
  have oq2_3 := HD2_3.out
  have KOt23 : Hid (Keep [w6, w1, w] t23) := Kt22.out.only ho (fun a ha b hb => by
    simp only [List.mem_cons, List.not_mem_nil, or_false] at ha
    rcases ha with rfl | rfl | rfl <;> omega)
  clear Kt22
  have M := Lib.hid hx
  clear hx ho o0 o1 o2 o3 oh0 oe0 od0 oh2 oe2 od2 oh3 oe3 od3 oq0_2 oq0_3 oq2_3
  have Kat23 : Hid (Keep [t23, w6, w1, w] t23) := KOt23.out.add
  clear KOt23
  go_wp2_with fail
  refine (heldInts_own MG.out (M.out.below Kat23.out.1).v (by omega) (by omega)).mono ?_
  rintro e t24 ⟨rfl, hb⟩
  have Kt24 : Hid (Keep [t23, w6, w1, w] t24) := Kat23.out.step hb
  clear Kat23
  clear hb
  have c0 := (b0.out.below Kt24.out.2.2.1).c0
  have c1 := (b0.out.below Kt24.out.2.2.1).c1
  have c2 := (b0.out.below Kt24.out.2.2.1).c2
  go_wp2_with fail
  refine (toGame_at (H0.out.below Kt24.out.2.2.2.1) hn0).mono ?_
  rintro e w25 ⟨x, rfl, hu, hb⟩
  obtain ⟨ha0_0, hc0_0, ha0_1, hc0_1, ha0_2, hc0_2, hus⟩ := hu.shape
  subst hus
  have hX0 := Lib.hid hu
  have Kw25 : Hid (Keep [t23, w6, w1, w] w25) := Kt24.out.step hb
  clear Kt24
  clear hu hb
  have Kaw25 : Hid (Keep [w25, t23, w6, w1, w] w25) := Kw25.out.add
  clear Kw25
  clear c0 c1 c2
  go_wp2_with fail
  refine (toInts_own (H2.out.below Kaw25.out.2.2.2.2.1)).mono ?_
  rintro e w26 ⟨x, rfl, hu, hb⟩
  obtain ⟨ha2_0, hc2_0, hus⟩ := hu.shape2
  subst hus
  have hX2 := Lib.hid hu
  have Kw26 : Hid (Keep [w25, t23, w6, w1, w] w26) := Kaw25.out.step hb
  clear Kaw25
  clear hu hb
  have Kaw26 : Hid (Keep [w26, w25, t23, w6, w1, w] w26) := Kw26.out.add
  clear Kw26
  go_wp2_with fail
  refine (toInts_own (H3.out.below Kaw26.out.2.2.2.2.2.1)).mono ?_
  rintro e w27 ⟨x, rfl, hu, hb⟩
  obtain ⟨ha3_0, hc3_0, hus⟩ := hu.shape2
  subst hus
  have hX3 := Lib.hid hu
  have Kw27 : Hid (Keep [w26, w25, t23, w6, w1, w] w27) := Kaw26.out.step hb
  clear Kaw26
  clear hu hb
  have Kaw27 : Hid (Keep [w27, w26, w25, t23, w6, w1, w] w27) := Kw27.out.add
  clear Kw27
  go_wp2_with fail
  refine (BadLoops_is (HE.out.below Kaw27.out.2.2.2.2.2.2.1) hc2_0 hc3_0 R0.out (hX0.out.below Kaw27.out.2.2.1).at (hX2.out.below Kaw27.out.2.1).v.at (hX3.out.below Kaw27.out.1).v.at).mono ?_
  rintro e w28 ⟨x, rfl, hg, hb⟩
  obtain ⟨hga_0, hgc_0, hus⟩ := hg.shape2
  subst hus
  have hG := Lib.hid hg
  have Kw28 : Hid (Keep [w27, w26, w25, t23, w6, w1, w] w28) := Kaw27.out.step hb
  clear Kaw27
  clear hb hg
  have Kaw28 : Hid (Keep [w28, w27, w26, w25, t23, w6, w1, w] w28) := Kw28.out.add
  clear Kw28
  go_wp2_with fail
  refine (eqInts_at (hG.out.below Kaw28.out.1).v (pG.out.below Kaw28.out.2.2.2.2.2.1).v).mono ?_
  rintro e w29 ⟨rfl, hb⟩
  have Kw29 : Hid (Keep [w28, w27, w26, w25, t23, w6, w1, w] w29) := Kaw28.out.step hb
  clear Kaw28
  clear hb
  go_wp2_with fail
  refine (heldInts_own MG.out (M.out.below Kw29.out.2.2.2.2.1).v (by omega) (by omega)).mono ?_
  rintro e t30 ⟨rfl, hb⟩
  have Kt30 : Hid (Keep [w28, w27, w26, w25, t23, w6, w1, w] t30) := Kw29.out.step hb
  clear Kw29
  clear hb
  go_wp2
  go_ret
  exact ⟨rfl, Kt30.out.2.2.2.2.2.2.2.1⟩

end Go.Proofs.YtokcinhopajniaaGreatDoor
