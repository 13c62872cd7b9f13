/-
  The walk of the law FnExactCleanIn.
-/
import Derived.Test.YtokcinhopajniaaGreatDoorKitGame
import Derived.Test.YtokcinhopajniaaGreatDoorWalks1
import Derived.Test.YtokcinhopajniaaGreatDoorWinsSpec
import Derived.Test.YtokcinhopajniaaGreatDoorCheckImpl
import Derived.Deep.RegionHeld3
namespace Go.Proofs.YtokcinhopajniaaGreatDoor
open Go.RowKit

set_option maxHeartbeats 16000000 in
set_option maxRecDepth 100000 in
theorem lawCleanIn {w : World} {v0 : Value} {O0 : List Int} {z0 : List (List Int)} {P0 : List Int} {n1 : Int} {aS2 : Option Addr} {S2 : List Int} {cs2 : Nat} {aS3 : Option Addr} {S3 : List Int} {cs3 : Nat} (h0 : GameAt w v0 O0 z0 P0) (h2 : IntsAt w aS2 S2) (h3 : IntsAt w aS3 S3) (hE : ErrW w) :
    Calls Tryz.prog 5 #[v0, .int .i64 n1, .slice aS2 S2.length cs2, .slice aS3 S3.length cs3] w fun e w' => e = .returned (.bool true) ∧ Below w.heap.size w w' := by
  have HE := Lib.hid hE
  clear hE
  have H0 := Lib.hid h0
  obtain ⟨u0_0, u0_1, u0_2, d0_0, d0_1, d0_2, A0, C0, rfl, q0, q1, q2⟩ := h0
  clear q0 q1 q2
  have H2 : Hid (IntsV w (.slice aS2 S2.length cs2) S2) := ⟨_, _, rfl, h2⟩
  have hl2 := h2.len
  clear h2
  have H3 : Hid (IntsV w (.slice aS3 S3.length cs3) S3) := ⟨_, _, rfl, h3⟩
  have hl3 := h3.len
  clear h3
  obtain ⟨w1, hw1⟩ : ∃ y, y = (w.alloc (.cells #[.slice u0_0 O0.length d0_0, .slice u0_1 z0.length d0_1, .slice u0_2 P0.length d0_2] 47)) := ⟨_, rfl⟩
  have HW1 := Lib.hid hw1
  have B1 : Hid (Below w.heap.size w w1) := by rw [hw1]; exact below1 _ _
  have b0 : Hid (Box3 w1 (w.heap.size) 47 (.slice u0_0 O0.length d0_0) (.slice u0_1 z0.length d0_1) (.slice u0_2 P0.length d0_2)) := by rw [hw1]; exact Box3.new_at (by simp) _ _ _ _ 
  have K1 : Hid (Keep [w1, w] w1) := ⟨Below.refl _ _, B1.out, trivial⟩
  clear hw1
  by_cases hbig2 : (1048576 : Int) < S2.length
  · go_enter Tryz.func5, Tryz.ntmps5
    go_wp2
    go_ret
    exact ⟨rfl, by rw [← HW1.out]; exact B1.out⟩
  have hsm2 : (S2.length : Int) ≤ 1048576 := by omega
  have hsmN2 : S2.length ≤ 1048576 := by omega
  clear hbig2
  by_cases hbig3 : (1048576 : Int) < S3.length
  · go_enter Tryz.func5, Tryz.ntmps5
    go_wp2
    go_ret
    exact ⟨rfl, by rw [← HW1.out]; exact B1.out⟩
  have hsm3 : (S3.length : Int) ≤ 1048576 := by omega
  have hsmN3 : S3.length ≤ 1048576 := by omega
  clear hbig3
  by_cases hs0 : (1048576 : Int) < (sizeGame O0 z0 P0 : Int)
  · skip
    have HSn0 : Hid (∀ W, Below w.heap.size w W → Calls Tryz.prog 22 #[.agg #[.slice u0_0 O0.length d0_0, .slice u0_1 z0.length d0_1, .slice u0_2 P0.length d0_2], .int .i64 (1048576 : Int)] W fun e w' => e = .returned (.int .i64 (-1)) ∧ Below W.heap.size W w') := fun W hb => szGame_at (leftOf_no hs0) (H0.out.below hb) (by omega) (by omega)
    clear hs0
    go_enter Tryz.func5, Tryz.ntmps5
    go_wp2_with fail
    rw [← HW1.out]
    refine (HSn0.out _ K1.out.2.1).mono ?_
    rintro e w2 ⟨rfl, hb⟩
    have Kw2 : Hid (Keep [w1, w] w2) := K1.out.step hb
    clear K1
    clear hb
    go_wp2
    go_ret
    exact ⟨rfl, Kw2.out.2.1⟩
  have hle0 : (sizeGame O0 z0 P0 : Int) ≤ (1048576 : Int) := by omega
  obtain ⟨m0, hm0⟩ : ∃ m, leftOf (1048576 : Int) (sizeGame O0 z0 P0) = m := ⟨_, rfl⟩
  have hmv0 : m0 = (1048576 : Int) - (sizeGame O0 z0 P0 : Int) := by rw [← hm0]; exact leftOf_yes hle0
  have hml0 : 0 ≤ m0 := by omega
  have hmu0 : m0 ≤ 1048576 := by omega
  have HLE0 : Hid (sizeGame O0 z0 P0 ≤ 1048576) := by simp only [Hid]; omega
  have HS0 : Hid (∀ W, Below w.heap.size w W → Calls Tryz.prog 22 #[.agg #[.slice u0_0 O0.length d0_0, .slice u0_1 z0.length d0_1, .slice u0_2 P0.length d0_2], .int .i64 (1048576 : Int)] W fun e w' => e = .returned (.int .i64 m0) ∧ Below W.heap.size W w') := fun W hb => szGame_at hm0 (H0.out.below hb) (by omega) (by omega)
  have hn0 : z0.length ≤ 1048576 := by have := HLE0.out; unfold sizeGame at this; (try unfold sizeArena at this); omega
  clear hs0 hm0 hle0 hmv0
  obtain ⟨rb0, hrb0⟩ : ∃ r, cleanB O0 z0 P0 n1 S2 S3 = r := ⟨_, rfl⟩
  have R0 := Lib.hid hrb0
  have hnerb0 : (rb0 != rb0) = false := by simp
  clear hrb0
  go_enter Tryz.func5, Tryz.ntmps5
  go_wp2_with fail
  rw [← HW1.out]
  refine (HS0.out _ K1.out.2.1).mono ?_
  rintro e w2 ⟨rfl, hb⟩
  have Kw2 : Hid (Keep [w1, w] w2) := K1.out.step hb
  clear K1
  clear hb
  have c0 := (b0.out.below Kw2.out.1).c0
  have c1 := (b0.out.below Kw2.out.1).c1
  have c2 := (b0.out.below Kw2.out.1).c2
  go_wp2_with fail
  refine (toGame_at (H0.out.below Kw2.out.2.1) hn0).mono ?_
  rintro e w3 ⟨x, rfl, hu, hb⟩
  obtain ⟨pa0_0, pc0_0, pa0_1, pc0_1, pa0_2, pc0_2, hus⟩ := hu.shape
  subst hus
  have pX0 := Lib.hid hu
  have Kw3 : Hid (Keep [w1, w] w3) := Kw2.out.step hb
  clear Kw2
  clear hu hb
  have Kaw3 : Hid (Keep [w3, w1, w] w3) := Kw3.out.add
  clear Kw3
  clear c0 c1 c2
  go_wp2_with fail
  refine (toInts_own (H2.out.below Kaw3.out.2.2.1)).mono ?_
  rintro e w4 ⟨x, rfl, hu, hb⟩
  obtain ⟨pa2_0, pc2_0, hus⟩ := hu.shape2
  subst hus
  have pX2 := Lib.hid hu
  have Kw4 : Hid (Keep [w3, w1, w] w4) := Kaw3.out.step hb
  clear Kaw3
  clear hu hb
  have Kaw4 : Hid (Keep [w4, w3, w1, w] w4) := Kw4.out.add
  clear Kw4
  go_wp2_with fail
  refine (toInts_own (H3.out.below Kaw4.out.2.2.2.1)).mono ?_
  rintro e w5 ⟨x, rfl, hu, hb⟩
  obtain ⟨pa3_0, pc3_0, hus⟩ := hu.shape2
  subst hus
  have pX3 := Lib.hid hu
  have Kw5 : Hid (Keep [w4, w3, w1, w] w5) := Kaw4.out.step hb
  clear Kaw4
  clear hu hb
  have Kaw5 : Hid (Keep [w5, w4, w3, w1, w] w5) := Kw5.out.add
  clear Kw5
  go_wp2_with fail
  refine (specCleanIn_is pc2_0 pc3_0 R0.out (pX0.out.below Kaw5.out.2.2.1).at (pX2.out.below Kaw5.out.2.1).v.at (pX3.out.below Kaw5.out.1).v.at).mono ?_
  rintro e w6 ⟨rfl, hb⟩
  have Kw6 : Hid (Keep [w5, w4, w3, w1, w] w6) := Kaw5.out.step hb
  clear Kaw5
  clear hb
  have Kaw6 : Hid (Keep [w6, w5, w4, w3, w1, w] w6) := Kw6.out.add
  clear Kw6
  have c0 := (b0.out.below Kaw6.out.2.2.2.2.1).c0
  have c1 := (b0.out.below Kaw6.out.2.2.2.2.1).c1
  have c2 := (b0.out.below Kaw6.out.2.2.2.2.1).c2
  go_wp2_with fail
  refine (toGame_at (H0.out.below Kaw6.out.2.2.2.2.2.1) hn0).mono ?_
  rintro e w7 ⟨x, rfl, hu, hb⟩
  obtain ⟨xa0_0, xc0_0, xa0_1, xc0_1, xa0_2, xc0_2, hus⟩ := hu.shape
  subst hus
  have xX0 := Lib.hid hu
  have HE0 : Hid (w6.heap.size ≤ w7.heap.size) := hb.size
  have Kw7 : Hid (Keep [w6, w5, w4, w3, w1, w] w7) := Kaw6.out.step hb
  clear Kaw6
  clear hu hb
  have Kaw7 : Hid (Keep [w7, w6, w5, w4, w3, w1, w] w7) := Kw7.out.add
  clear Kw7
  clear c0 c1 c2
  obtain ⟨w8, hw8⟩ : ∃ y, y = w7.alloc (.cells #[.slice xa0_0 O0.length xc0_0, .slice xa0_1 z0.length xc0_1, .slice xa0_2 P0.length xc0_2] 32) := ⟨_, rfl⟩
  have Hw8 := Lib.hid hw8
  have hb : Below w7.heap.size w7 w8 := by rw [hw8]; exact below1 _ _
  have xb0 : Hid (Box3 w8 w7.heap.size 32 (.slice xa0_0 O0.length xc0_0) (.slice xa0_1 z0.length xc0_1) (.slice xa0_2 P0.length xc0_2)) := by rw [hw8]; exact Box3.new _ _ _ _ _ 
  have Kw8 : Hid (Keep [w7, w6, w5, w4, w3, w1, w] w8) := Kaw7.out.step hb
  clear Kaw7
  clear hb
  have Kaw8 : Hid (Keep [w8, w7, w6, w5, w4, w3, w1, w] w8) := Kw8.out.add
  clear Kw8
  clear hw8
  go_wp2_with fail
  rw [← Hw8.out]
  refine (toInts_own (H2.out.below Kaw8.out.2.2.2.2.2.2.2.1)).mono ?_
  rintro e w9 ⟨x, rfl, hu, hb⟩
  obtain ⟨xa2_0, xc2_0, hus⟩ := hu.shape2
  subst hus
  have xX2 := Lib.hid hu
  have HE2 : Hid (w8.heap.size ≤ w9.heap.size) := hb.size
  have Kw9 : Hid (Keep [w8, w7, w6, w5, w4, w3, w1, w] w9) := Kaw8.out.step hb
  clear Kaw8
  clear hu hb
  have Kaw9 : Hid (Keep [w9, w8, w7, w6, w5, w4, w3, w1, w] w9) := Kw9.out.add
  clear Kw9
  go_wp2_with fail
  refine (toInts_own (H3.out.below Kaw9.out.2.2.2.2.2.2.2.2.1)).mono ?_
  rintro e w10 ⟨x, rfl, hu, hb⟩
  obtain ⟨xa3_0, xc3_0, hus⟩ := hu.shape2
  subst hus
  have xX3 := Lib.hid hu
  have HE3 : Hid (w9.heap.size ≤ w10.heap.size) := hb.size
  have Kw10 : Hid (Keep [w9, w8, w7, w6, w5, w4, w3, w1, w] w10) := Kaw9.out.step hb
  clear Kaw9
  clear hu hb
  have Kaw10 : Hid (Keep [w10, w9, w8, w7, w6, w5, w4, w3, w1, w] w10) := Kw10.out.add
  clear Kw10
  have c0 := (xb0.out.below Kaw10.out.2.2.1).c0
  have c1 := (xb0.out.below Kaw10.out.2.2.1).c1
  have c2 := (xb0.out.below Kaw10.out.2.2.1).c2
  go_wp2_with fail
  refine (CleanIn_is (HE.out.below Kaw10.out.2.2.2.2.2.2.2.2.2.1) xc2_0 xc3_0 R0.out (xX0.out.below Kaw10.out.2.2.2.1).at (xX2.out.below Kaw10.out.2.1).v.at (xX3.out.below Kaw10.out.1).v.at).mono ?_
  rintro e w11 ⟨rfl, hb⟩
  have Kw11 : Hid (Keep [w10, w9, w8, w7, w6, w5, w4, w3, w1, w] w11) := Kaw10.out.step hb
  clear Kaw10
  clear hb
  clear c0 c1 c2
  have c0 := (b0.out.below Kw11.out.2.2.2.2.2.2.2.2.1).c0
  have c1 := (b0.out.below Kw11.out.2.2.2.2.2.2.2.2.1).c1
  have c2 := (b0.out.below Kw11.out.2.2.2.2.2.2.2.2.1).c2
  have c3 := (xb0.out.below Kw11.out.2.2.1).c0
  have c4 := (xb0.out.below Kw11.out.2.2.1).c1
  have c5 := (xb0.out.below Kw11.out.2.2.1).c2
  have Kdw11 : Hid (Keep [w10, w9, w8, w7, w6, w5, w4, w3, w1, w] w11.drew) := Kw11.out.step (Below.refl _ _).drew
  go_wp2_with fail
  go_region_held3 (fun w' => w'.cell? ⟨w.heap.size, 0, none⟩ = some (.slice u0_0 O0.length d0_0) ∧ w'.cell? ⟨w.heap.size, 1, none⟩ = some (.slice u0_1 z0.length d0_1) ∧ w'.cell? ⟨w.heap.size, 2, none⟩ = some (.slice u0_2 P0.length d0_2) ∧ w'.cell? ⟨w7.heap.size, 0, none⟩ = some (.slice xa0_0 O0.length xc0_0) ∧ w'.cell? ⟨w7.heap.size, 1, none⟩ = some (.slice xa0_1 z0.length xc0_1) ∧ w'.cell? ⟨w7.heap.size, 2, none⟩ = some (.slice xa0_2 P0.length xc0_2))
    (first
      | go_keep
      | exact ⟨d0, d1, d2, d3, d4, d5⟩
      | exact ⟨f0, f1, f2, f3, f4, f5⟩)
    (first
      | (go_at_call 23; refine (toGame_at (H0.out.below Kdw11.out.2.2.2.2.2.2.2.2.2.1) hn0).mono ?_; rintro e w12 ⟨x, rfl, hu, hb⟩; obtain ⟨ya0_0, yc0_0, ya0_1, yc0_1, ya0_2, yc0_2, hus⟩ := hu.shape; subst hus; have yX0 := Lib.hid hu; have Kw12 : Hid (Keep [w10, w9, w8, w7, w6, w5, w4, w3, w1, w] w12) := Kdw11.out.step hb; have d0 := (b0.out.below Kw12.out.2.2.2.2.2.2.2.2.1).c0; have d1 := (b0.out.below Kw12.out.2.2.2.2.2.2.2.2.1).c1; have d2 := (b0.out.below Kw12.out.2.2.2.2.2.2.2.2.1).c2; have d3 := (xb0.out.below Kw12.out.2.2.1).c0; have d4 := (xb0.out.below Kw12.out.2.2.1).c1; have d5 := (xb0.out.below Kw12.out.2.2.1).c2; have Kaw12 : Hid (Keep [w12, w10, w9, w8, w7, w6, w5, w4, w3, w1, w] w12) := Kw12.out.add; clear hu hb)
      | (go_at_call 26; refine (eqGame_at (xX0.out.below Kaw12.out.2.2.2.2.1).at (yX0.out.below Kaw12.out.1).at).mono ?_; rintro e w13 ⟨rfl, hb⟩; have Kw13 : Hid (Keep [w12, w10, w9, w8, w7, w6, w5, w4, w3, w1, w] w13) := Kaw12.out.step hb; have f0 := (b0.out.below Kw13.out.2.2.2.2.2.2.2.2.2.1).c0; have f1 := (b0.out.below Kw13.out.2.2.2.2.2.2.2.2.2.1).c1; have f2 := (b0.out.below Kw13.out.2.2.2.2.2.2.2.2.2.1).c2; have f3 := (xb0.out.below Kw13.out.2.2.2.1).c0; have f4 := (xb0.out.below Kw13.out.2.2.2.1).c1; have f5 := (xb0.out.below Kw13.out.2.2.2.1).c2; clear hb))
  clear c0 d0 f0 c1 d1 f1 c2 d2 f2 c3 d3 f3 c4 d4 f4 c5 d5 f5
  have Kzw13 : Hid (Keep [w10, w9, w8, w7, w6, w5, w4, w3, w1, w] w13) := Kw13.out.2
  clear Kdw11 Kw12 Kaw12 yX0
  go_wp2_with fail
  refine (toInts_own (H2.out.below Kzw13.out.2.2.2.2.2.2.2.2.2.1)).mono ?_
  rintro e w14 ⟨x, rfl, hu, hb⟩
  obtain ⟨y13a2_0, y13c2_0, hus⟩ := hu.shape2
  subst hus
  have y13X2 := Lib.hid hu
  have Kw14 : Hid (Keep [w10, w9, w8, w7, w6, w5, w4, w3, w1, w] w14) := Kzw13.out.step hb
  clear Kzw13
  clear hu hb
  have Kaw14 : Hid (Keep [w14, w10, w9, w8, w7, w6, w5, w4, w3, w1, w] w14) := Kw14.out.add
  clear Kw14
  go_wp2_with fail
  refine (eqInts_at (xX2.out.below Kaw14.out.2.2.1).v (y13X2.out.below Kaw14.out.1).v).mono ?_
  rintro e w15 ⟨rfl, hb⟩
  have Kw15 : Hid (Keep [w14, w10, w9, w8, w7, w6, w5, w4, w3, w1, w] w15) := Kaw14.out.step hb
  clear Kaw14
  clear hb
  go_wp2_with fail
  refine (toInts_own (H3.out.below Kw15.out.2.2.2.2.2.2.2.2.2.2.1)).mono ?_
  rintro e w16 ⟨x, rfl, hu, hb⟩
  obtain ⟨y15a3_0, y15c3_0, hus⟩ := hu.shape2
  subst hus
  have y15X3 := Lib.hid hu
  have Kw16 : Hid (Keep [w14, w10, w9, w8, w7, w6, w5, w4, w3, w1, w] w16) := Kw15.out.step hb
  clear Kw15
  clear hu hb
  have Kaw16 : Hid (Keep [w16, w14, w10, w9, w8, w7, w6, w5, w4, w3, w1, w] w16) := Kw16.out.add
  clear Kw16
  go_wp2_with fail
  refine (eqInts_at (xX3.out.below Kaw16.out.2.2.1).v (y15X3.out.below Kaw16.out.1).v).mono ?_
  rintro e w17 ⟨rfl, hb⟩
  have Kw17 : Hid (Keep [w16, w14, w10, w9, w8, w7, w6, w5, w4, w3, w1, w] w17) := Kaw16.out.step hb
  clear Kaw16
  clear hb
  go_wp2
  go_ret
  exact ⟨rfl, Kw17.out.2.2.2.2.2.2.2.2.2.2.2.1⟩

end Go.Proofs.YtokcinhopajniaaGreatDoor
