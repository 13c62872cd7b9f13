/-
  The walk of the law FnExactOnlyBy.
-/
import Derived.Test.YtjnbpllalbfeiaaKitGame
import Derived.Test.YtjnbpllalbfeiaaWalks1
import Derived.Test.YtjnbpllalbfeiaaOnlySpec
import Derived.Test.YtjnbpllalbfeiaaOnlyImpl
import Derived.Test.YtjnbpllalbfeiaaSizes7
import Derived.Deep.RegionHeld3
namespace Go.Proofs.Ytjnbpllalbfeiaa
open Go.RowKit

set_option maxHeartbeats 16000000 in
set_option maxRecDepth 100000 in
theorem lawOnlyBy {w : World} {v0 : Value} {O0 : List Int} {z0 : List (List Int)} {P0 : List Int} {aS1 : Option Addr} {S1 : List Int} {cs1 : Nat} (h0 : GameAt w v0 O0 z0 P0) (h1 : IntsAt w aS1 S1) :
    Calls Try.prog 3 #[v0, .slice aS1 S1.length cs1] w fun e w' => e = .returned (.bool true) ∧ Below w.heap.size w w' := by
  have H0 := Lib.hid h0
  obtain ⟨u0_0, u0_1, u0_2, d0_0, d0_1, d0_2, A0, C0, rfl, q0, q1, q2⟩ := h0
  clear q0 q1 q2
  have H1 : Hid (IntsV w (.slice aS1 S1.length cs1) S1) := ⟨_, _, rfl, h1⟩
  have hl1 := h1.len
  clear h1
  obtain ⟨w1, hw1⟩ : ∃ y, y = (w.alloc (.cells #[.slice u0_0 O0.length d0_0, .slice u0_1 z0.length d0_1, .slice u0_2 P0.length d0_2] 27)) := ⟨_, rfl⟩
  have HW1 := Lib.hid hw1
  have B1 : Hid (Below w.heap.size w w1) := by rw [hw1]; exact below1 _ _
  have b0 : Hid (Box3 w1 (w.heap.size) 27 (.slice u0_0 O0.length d0_0) (.slice u0_1 z0.length d0_1) (.slice u0_2 P0.length d0_2)) := by rw [hw1]; exact Box3.new_at (by simp) _ _ _ _ 
  have K1 : Hid (Keep [w1, w] w1) := ⟨Below.refl _ _, B1.out, trivial⟩
  clear hw1
  by_cases hbig1 : (1048576 : Int) < S1.length
  · go_enter Try.func3, Try.ntmps3
    go_wp2
    go_ret
    exact ⟨rfl, by rw [← HW1.out]; exact B1.out⟩
  have hsm1 : (S1.length : Int) ≤ 1048576 := by omega
  have hsmN1 : S1.length ≤ 1048576 := by omega
  clear hbig1
  by_cases hs0 : (1048576 : Int) < (sizeGame O0 z0 P0 : Int)
  · skip
    have HSn0 : Hid (∀ W, Below w.heap.size w W → Calls Try.prog 4 #[.agg #[.slice u0_0 O0.length d0_0, .slice u0_1 z0.length d0_1, .slice u0_2 P0.length d0_2], .int .i64 (1048576 : Int)] W fun e w' => e = .returned (.int .i64 (-1)) ∧ Below W.heap.size W w') := fun W hb => szGame_at (leftOf_no hs0) (H0.out.below hb) (by omega) (by omega)
    clear hs0
    go_enter Try.func3, Try.ntmps3
    go_wp2_with fail
    rw [← HW1.out]
    refine (HSn0.out _ K1.out.2.1).mono ?_
    rintro e w2 ⟨rfl, hb⟩
    have Kw2 : Hid (Keep [w1, w] w2) := K1.out.step hb
    clear K1
    clear hb
    go_wp2
    go_ret
    exact ⟨rfl, Kw2.out.2.1⟩
  have hle0 : (sizeGame O0 z0 P0 : Int) ≤ (1048576 : Int) := by omega
  obtain ⟨m0, hm0⟩ : ∃ m, leftOf (1048576 : Int) (sizeGame O0 z0 P0) = m := ⟨_, rfl⟩
  have hmv0 : m0 = (1048576 : Int) - (sizeGame O0 z0 P0 : Int) := by rw [← hm0]; exact leftOf_yes hle0
  have hml0 : 0 ≤ m0 := by omega
  have hmu0 : m0 ≤ 1048576 := by omega
  have HLE0 : Hid (sizeGame O0 z0 P0 ≤ 1048576) := by simp only [Hid]; omega
  have HS0 : Hid (∀ W, Below w.heap.size w W → Calls Try.prog 4 #[.agg #[.slice u0_0 O0.length d0_0, .slice u0_1 z0.length d0_1, .slice u0_2 P0.length d0_2], .int .i64 (1048576 : Int)] W fun e w' => e = .returned (.int .i64 m0) ∧ Below W.heap.size W w') := fun W hb => szGame_at hm0 (H0.out.below hb) (by omega) (by omega)
  have hn0 : z0.length ≤ 1048576 := by have := HLE0.out; unfold sizeGame at this; (try unfold sizeArena at this); omega
  clear hs0 hm0 hle0 hmv0
  have hRS := only_size (O := O0) (zss := z0) (P := P0) (Pk := S1)
  obtain ⟨rO, hrO⟩ : ∃ r, onlyO O0 z0 P0 S1 = r := ⟨_, rfl⟩
  obtain ⟨rz, hrz⟩ : ∃ r, onlyN O0 z0 P0 S1 = r := ⟨_, rfl⟩
  obtain ⟨rP, hrP⟩ : ∃ r, onlyP O0 z0 P0 S1 = r := ⟨_, rfl⟩
  obtain ⟨rb1, hrb1⟩ : ∃ r, onlyB O0 z0 P0 S1 = r := ⟨_, rfl⟩
  rw [hrO, hrz, hrP] at hRS
  have RSZ : Hid (sizeGame rO rz rP ≤ 1048576) := hRS
  have R0 := Lib.hid (And.intro hrO (And.intro hrz (And.intro hrP hrb1)))
  have hnerb1 : (rb1 != rb1) = false := by simp
  clear hrO hrz hrP hrb1 hRS
  obtain ⟨mk0, hmk0⟩ : ∃ r : Int, (1 : Int) + (O0.length : Int) + (sumLen z0 z0.length : Int) + (P0.length : Int) = r := ⟨_, rfl⟩
  have MK0 := Lib.hid hmk0
  have hmkl0 : 0 ≤ mk0 := by omega
  have hmku0 : mk0 ≤ 1048577 := by have := HLE0.out; unfold sizeGame at this; (try unfold sizeArena at this); omega
  obtain ⟨mk1, hmk1⟩ : ∃ r : Int, mk0 + (S1.length : Int) = r := ⟨_, rfl⟩
  have MK1 := Lib.hid hmk1
  have hmkl1 : 0 ≤ mk1 := by omega
  have hmku1 : mk1 ≤ 2097153 := by omega
  obtain ⟨mg, hmg⟩ : ∃ r : Int, (1 : Int) + (rO.length : Int) + (sumLen rz rz.length : Int) + (rP.length : Int) = r := ⟨_, rfl⟩
  have MG := Lib.hid hmg
  have hmg0 : 0 ≤ mg := by omega
  have hmgn : (mg != mg) = false := by simp
  clear hmg hmk0 hmk1
  go_enter Try.func3, Try.ntmps3
  go_wp2_with fail
  rw [← HW1.out]
  refine (HS0.out _ K1.out.2.1).mono ?_
  rintro e w2 ⟨rfl, hb⟩
  have Kw2 : Hid (Keep [w1, w] w2) := K1.out.step hb
  clear K1
  clear hb
  have c0 := (b0.out.below Kw2.out.1).c0
  have c1 := (b0.out.below Kw2.out.1).c1
  have c2 := (b0.out.below Kw2.out.1).c2
  go_wp2_with fail
  refine (toGame_at (H0.out.below Kw2.out.2.1) hn0).mono ?_
  rintro e w3 ⟨x, rfl, hu, hb⟩
  obtain ⟨pa0_0, pc0_0, pa0_1, pc0_1, pa0_2, pc0_2, hus⟩ := hu.shape
  subst hus
  have pX0 := Lib.hid hu
  have Kw3 : Hid (Keep [w1, w] w3) := Kw2.out.step hb
  clear Kw2
  clear hu hb
  have Kaw3 : Hid (Keep [w3, w1, w] w3) := Kw3.out.add
  clear Kw3
  clear c0 c1 c2
  go_wp2_with fail
  refine (toInts_own (H1.out.below Kaw3.out.2.2.1)).mono ?_
  rintro e w4 ⟨x, rfl, hu, hb⟩
  obtain ⟨pa1_0, pc1_0, hus⟩ := hu.shape2
  subst hus
  have pX1 := Lib.hid hu
  have Kw4 : Hid (Keep [w3, w1, w] w4) := Kaw3.out.step hb
  clear Kaw3
  clear hu hb
  have Kaw4 : Hid (Keep [w4, w3, w1, w] w4) := Kw4.out.add
  clear Kw4
  go_wp2_with fail
  refine (onlyBy_is pc1_0 R0.out (pX0.out.below Kaw4.out.2.1).at (pX1.out.below Kaw4.out.1).v.at).mono ?_
  rintro e w5 ⟨x, rfl, hg, hb⟩
  obtain ⟨pga_0, pgc_0, pga_1, pgc_1, pga_2, pgc_2, hus⟩ := hg.shape
  subst hus
  have pG := Lib.hid hg
  have Kw5 : Hid (Keep [w4, w3, w1, w] w5) := Kaw4.out.step hb
  clear Kaw4
  clear hb hg
  have Kaw5 : Hid (Keep [w5, w4, w3, w1, w] w5) := Kw5.out.add
  clear Kw5
  obtain ⟨w6, hw6⟩ : ∃ y, y = w5.alloc (.cells #[.slice pga_0 rO.length pgc_0, .slice pga_1 rz.length pgc_1, .slice pga_2 rP.length pgc_2] 31) := ⟨_, rfl⟩
  have Hw6 := Lib.hid hw6
  have hb : Below w5.heap.size w5 w6 := by rw [hw6]; exact below1 _ _
  have zb : Hid (Box3 w6 w5.heap.size 31 (.slice pga_0 rO.length pgc_0) (.slice pga_1 rz.length pgc_1) (.slice pga_2 rP.length pgc_2)) := by rw [hw6]; exact Box3.new _ _ _ _ _ 
  have Kw6 : Hid (Keep [w5, w4, w3, w1, w] w6) := Kaw5.out.step hb
  clear Kaw5
  clear hb
  have Kaw6 : Hid (Keep [w6, w5, w4, w3, w1, w] w6) := Kw6.out.add
  clear Kw6
  have c0 := (b0.out.below Kaw6.out.2.2.2.2.1).c0
  have c1 := (b0.out.below Kaw6.out.2.2.2.2.1).c1
  have c2 := (b0.out.below Kaw6.out.2.2.2.2.1).c2
  rw [hw6] at c0 c1 c2
  clear hw6
  have OW : Hid (w.heap.size ≤ w1.heap.size) := B1.out.size
  have OC : Hid (w1.heap.size ≤ w6.heap.size) := Kaw6.out.2.2.2.2.1.size
  have OP : Hid (w5.heap.size ≤ w6.heap.size) := Kaw6.out.2.1.size
  go_wp2_with fail
  rw [← Hw6.out]
  have HB0 : Hid (w6.heap.size ≤ w6.heap.size) := Kaw6.out.1.size
  refine (toGame_at (H0.out.below Kaw6.out.2.2.2.2.2.1) hn0).mono ?_
  rintro e w7 ⟨x, rfl, hu, hb⟩
  obtain ⟨xa0_0, xc0_0, xa0_1, xc0_1, xa0_2, xc0_2, hus⟩ := hu.shape
  subst hus
  have xX0 := Lib.hid hu
  have HE0 : Hid (w6.heap.size ≤ w7.heap.size) := hb.size
  have Kw7 : Hid (Keep [w6, w5, w4, w3, w1, w] w7) := Kaw6.out.step hb
  clear Kaw6
  clear hu hb
  have Kaw7 : Hid (Keep [w7, w6, w5, w4, w3, w1, w] w7) := Kw7.out.add
  clear Kw7
  clear c0 c1 c2
  obtain ⟨w8, hw8⟩ : ∃ y, y = w7.alloc (.cells #[.slice xa0_0 O0.length xc0_0, .slice xa0_1 z0.length xc0_1, .slice xa0_2 P0.length xc0_2] 31) := ⟨_, rfl⟩
  have Hw8 := Lib.hid hw8
  have hb : Below w7.heap.size w7 w8 := by rw [hw8]; exact below1 _ _
  have xb0 : Hid (Box3 w8 w7.heap.size 31 (.slice xa0_0 O0.length xc0_0) (.slice xa0_1 z0.length xc0_1) (.slice xa0_2 P0.length xc0_2)) := by rw [hw8]; exact Box3.new _ _ _ _ _ 
  have Kw8 : Hid (Keep [w7, w6, w5, w4, w3, w1, w] w8) := Kaw7.out.step hb
  clear Kaw7
  clear hb
  have Kaw8 : Hid (Keep [w8, w7, w6, w5, w4, w3, w1, w] w8) := Kw8.out.add
  clear Kw8
  clear hw8
  go_wp2_with fail
  rw [← Hw8.out]
  have HB1 : Hid (w6.heap.size ≤ w8.heap.size) := Kaw8.out.2.2.1.size
  have HD0_1 : Hid (w7.heap.size ≤ w8.heap.size) := Kaw8.out.2.1.size
  refine (toInts_own (H1.out.below Kaw8.out.2.2.2.2.2.2.2.1)).mono ?_
  rintro e w9 ⟨x, rfl, hu, hb⟩
  obtain ⟨xa1_0, xc1_0, hus⟩ := hu.shape2
  subst hus
  have xX1 := Lib.hid hu
  have HE1 : Hid (w8.heap.size ≤ w9.heap.size) := hb.size
  have Kw9 : Hid (Keep [w8, w7, w6, w5, w4, w3, w1, w] w9) := Kaw8.out.step hb
  clear Kaw8
  clear hu hb
  have Kaw9 : Hid (Keep [w9, w8, w7, w6, w5, w4, w3, w1, w] w9) := Kw9.out.add
  clear Kw9
  have c0 := (xb0.out.below Kaw9.out.2.1).c0
  have c1 := (xb0.out.below Kaw9.out.2.1).c1
  have c2 := (xb0.out.below Kaw9.out.2.1).c2
  go_wp2_with fail
  have HD0 : Hid (w7.heap.size ≤ w9.heap.size) := Kaw9.out.2.2.1.size
  have HD1 : Hid (w9.heap.size ≤ w9.heap.size) := Kaw9.out.1.size
  refine (OnlyBy_is xc1_0 R0.out (xX0.out.below Kaw9.out.2.2.1).at (xX1.out.below Kaw9.out.1).v.at).mono ?_
  rintro e w10 ⟨x, rfl, hg, hb⟩
  obtain ⟨xga_0, xgc_0, xga_1, xgc_1, xga_2, xgc_2, hus⟩ := hg.shape
  subst hus
  have xG := Lib.hid hg
  have HEG : Hid (w9.heap.size ≤ w10.heap.size) := hb.size
  have Kw10 : Hid (Keep [w9, w8, w7, w6, w5, w4, w3, w1, w] w10) := Kaw9.out.step hb
  clear Kaw9
  clear hb hg
  have Kaw10 : Hid (Keep [w10, w9, w8, w7, w6, w5, w4, w3, w1, w] w10) := Kw10.out.add
  clear Kw10
  clear c0 c1 c2
  obtain ⟨w11, hw11⟩ : ∃ y, y = w10.alloc (.cells #[.slice xga_0 rO.length xgc_0, .slice xga_1 rz.length xgc_1, .slice xga_2 rP.length xgc_2] 31) := ⟨_, rfl⟩
  have Hw11 := Lib.hid hw11
  have hb : Below w10.heap.size w10 w11 := by rw [hw11]; exact below1 _ _
  have gb : Hid (Box3 w11 w10.heap.size 31 (.slice xga_0 rO.length xgc_0) (.slice xga_1 rz.length xgc_1) (.slice xga_2 rP.length xgc_2)) := by rw [hw11]; exact Box3.new _ _ _ _ _ 
  have Kw11 : Hid (Keep [w10, w9, w8, w7, w6, w5, w4, w3, w1, w] w11) := Kaw10.out.step hb
  clear Kaw10
  clear hb
  have Kaw11 : Hid (Keep [w11, w10, w9, w8, w7, w6, w5, w4, w3, w1, w] w11) := Kw11.out.add
  clear Kw11
  clear hw11
  have c0 := (gb.out.below Kaw11.out.1).c0
  have c1 := (gb.out.below Kaw11.out.1).c1
  have c2 := (gb.out.below Kaw11.out.1).c2
  have c3 := (zb.out.below Kaw11.out.2.2.2.2.2.1).c0
  have c4 := (zb.out.below Kaw11.out.2.2.2.2.2.1).c1
  have c5 := (zb.out.below Kaw11.out.2.2.2.2.2.1).c2
  rw [Hw11.out] at c0 c1 c2 c3 c4 c5
  go_wp2_with fail
  rw [← Hw11.out]
  refine (eqGame_at (xG.out.below Kaw11.out.2.1).at (pG.out.below Kaw11.out.2.2.2.2.2.2.1).at).mono ?_
  rintro e w12 ⟨rfl, hb⟩
  have Kw12 : Hid (Keep [w11, w10, w9, w8, w7, w6, w5, w4, w3, w1, w] w12) := Kaw11.out.step hb
  clear Kaw11
  clear hb
  clear c0 c1 c2 c3 c4 c5
  have c0 := (b0.out.below Kw12.out.2.2.2.2.2.2.2.2.2.1).c0
  have c1 := (b0.out.below Kw12.out.2.2.2.2.2.2.2.2.2.1).c1
  have c2 := (b0.out.below Kw12.out.2.2.2.2.2.2.2.2.2.1).c2
  have c3 := (xb0.out.below Kw12.out.2.2.2.1).c0
  have c4 := (xb0.out.below Kw12.out.2.2.2.1).c1
  have c5 := (xb0.out.below Kw12.out.2.2.2.1).c2
  have Kdw12 : Hid (Keep [w11, w10, w9, w8, w7, w6, w5, w4, w3, w1, w] w12.drew) := Kw12.out.step (Below.refl _ _).drew
  go_wp2_with fail
  go_region_held3 (fun w' => w'.cell? ⟨w.heap.size, 0, none⟩ = some (.slice u0_0 O0.length d0_0) ∧ w'.cell? ⟨w.heap.size, 1, none⟩ = some (.slice u0_1 z0.length d0_1) ∧ w'.cell? ⟨w.heap.size, 2, none⟩ = some (.slice u0_2 P0.length d0_2) ∧ w'.cell? ⟨w7.heap.size, 0, none⟩ = some (.slice xa0_0 O0.length xc0_0) ∧ w'.cell? ⟨w7.heap.size, 1, none⟩ = some (.slice xa0_1 z0.length xc0_1) ∧ w'.cell? ⟨w7.heap.size, 2, none⟩ = some (.slice xa0_2 P0.length xc0_2))
    (first
      | go_keep
      | exact ⟨d0, d1, d2, d3, d4, d5⟩
      | exact ⟨f0, f1, f2, f3, f4, f5⟩)
    (first
      | (go_at_call 6; refine (toGame_at (H0.out.below Kdw12.out.2.2.2.2.2.2.2.2.2.2.1) hn0).mono ?_; rintro e w13 ⟨x, rfl, hu, hb⟩; obtain ⟨ya0_0, yc0_0, ya0_1, yc0_1, ya0_2, yc0_2, hus⟩ := hu.shape; subst hus; have yX0 := Lib.hid hu; have Kw13 : Hid (Keep [w11, w10, w9, w8, w7, w6, w5, w4, w3, w1, w] w13) := Kdw12.out.step hb; have d0 := (b0.out.below Kw13.out.2.2.2.2.2.2.2.2.2.1).c0; have d1 := (b0.out.below Kw13.out.2.2.2.2.2.2.2.2.2.1).c1; have d2 := (b0.out.below Kw13.out.2.2.2.2.2.2.2.2.2.1).c2; have d3 := (xb0.out.below Kw13.out.2.2.2.1).c0; have d4 := (xb0.out.below Kw13.out.2.2.2.1).c1; have d5 := (xb0.out.below Kw13.out.2.2.2.1).c2; have Kaw13 : Hid (Keep [w13, w11, w10, w9, w8, w7, w6, w5, w4, w3, w1, w] w13) := Kw13.out.add; clear hu hb)
      | (go_at_call 9; refine (eqGame_at (xX0.out.below Kaw13.out.2.2.2.2.2.1).at (yX0.out.below Kaw13.out.1).at).mono ?_; rintro e w14 ⟨rfl, hb⟩; have Kw14 : Hid (Keep [w13, w11, w10, w9, w8, w7, w6, w5, w4, w3, w1, w] w14) := Kaw13.out.step hb; have f0 := (b0.out.below Kw14.out.2.2.2.2.2.2.2.2.2.2.1).c0; have f1 := (b0.out.below Kw14.out.2.2.2.2.2.2.2.2.2.2.1).c1; have f2 := (b0.out.below Kw14.out.2.2.2.2.2.2.2.2.2.2.1).c2; have f3 := (xb0.out.below Kw14.out.2.2.2.2.1).c0; have f4 := (xb0.out.below Kw14.out.2.2.2.2.1).c1; have f5 := (xb0.out.below Kw14.out.2.2.2.2.1).c2; clear hb))
  clear c0 d0 f0 c1 d1 f1 c2 d2 f2 c3 d3 f3 c4 d4 f4 c5 d5 f5
  have Kzw14 : Hid (Keep [w11, w10, w9, w8, w7, w6, w5, w4, w3, w1, w] w14) := Kw14.out.2
  clear Kdw12 Kw13 Kaw13 yX0
  go_wp2_with fail
  refine (toInts_own (H1.out.below Kzw14.out.2.2.2.2.2.2.2.2.2.2.1)).mono ?_
  rintro e w15 ⟨x, rfl, hu, hb⟩
  obtain ⟨y14a1_0, y14c1_0, hus⟩ := hu.shape2
  subst hus
  have y14X1 := Lib.hid hu
  have Kw15 : Hid (Keep [w11, w10, w9, w8, w7, w6, w5, w4, w3, w1, w] w15) := Kzw14.out.step hb
  clear Kzw14
  clear hu hb
  have Kaw15 : Hid (Keep [w15, w11, w10, w9, w8, w7, w6, w5, w4, w3, w1, w] w15) := Kw15.out.add
  clear Kw15
  go_wp2_with fail
  refine (eqInts_at (xX1.out.below Kaw15.out.2.2.2.1).v (y14X1.out.below Kaw15.out.1).v).mono ?_
  rintro e w16 ⟨rfl, hb⟩
  have Kw16 : Hid (Keep [w15, w11, w10, w9, w8, w7, w6, w5, w4, w3, w1, w] w16) := Kaw15.out.step hb
  clear Kaw15
  clear hb
  have xX0_w16 := Lib.hid (xX0.out.below Kw16.out.2.2.2.2.2.1)
  have xX1_w16 := Lib.hid (xX1.out.below Kw16.out.2.2.2.1)
  have xb0_w16 := Lib.hid (xb0.out.below Kw16.out.2.2.2.2.1)
  have xG_w16 := Lib.hid (xG.out.below Kw16.out.2.2.1)
  have gb_w16 := Lib.hid (gb.out.below Kw16.out.2.1)
  have KBw16 : Hid (Keep [w6, w5, w1, w] w16) := ⟨Kw16.out.2.2.2.2.2.2.1, Kw16.out.2.2.2.2.2.2.2.1, Kw16.out.2.2.2.2.2.2.2.2.2.2.1, Kw16.out.2.2.2.2.2.2.2.2.2.2.2.1, trivial⟩
  clear Kw16
  have c0 := xb0_w16.out.c0
  have c1 := xb0_w16.out.c1
  have c2 := xb0_w16.out.c2
  go_wp2_with fail
  refine (markGame_at MK0.out xX0_w16.out (by omega) (by omega) HLE0.out).mono ?_
  rintro e t17 ⟨rfl, hx, ho⟩
  have o0 := OW.out
  have o1 := OC.out
  have o2 := OP.out
  have o3 := HEG.out
  have oh0 := HB0.out
  have oe0 := HE0.out
  have od0 := HD0.out
  have oh1 := HB1.out
  have oe1 := HE1.out
  have od1 := HD1.out
  have oq0_1 := HD0_1.out
  have KOt17 : Hid (Keep [w6, w5, w1, w] t17) := KBw16.out.only ho (fun a ha b hb => by
    simp only [List.mem_cons, List.not_mem_nil, or_false] at ha
    rcases ha with rfl | rfl | rfl | rfl <;> omega)
  clear KBw16
  clear xX0_w16
  have xX1_t17 := Lib.hid (xX1_w16.out.only ho (fun g hg hb => by have := (xX1_w16.out.own.lt g hg).1; omega))
  clear xX1_w16
  clear xb0_w16
  have xG_t17 := Lib.hid (xG_w16.out.only ho (fun g hg1 hg2 hb => by omega))
  clear xG_w16
  have gb_t17 := Lib.hid (gb_w16.out.only ho (fun hb => by omega))
  clear gb_w16
  clear hx ho o0 o1 o2 o3 oh0 oe0 od0 oh1 oe1 od1 oq0_1 c0 c1 c2
  go_wp2_with fail
  refine (markInts_at MK1.out xX1_t17.out (by omega) (by omega)).mono ?_
  rintro e t18 ⟨rfl, hx, ho⟩
  have o0 := OW.out
  have o1 := OC.out
  have o2 := OP.out
  have o3 := HEG.out
  have oh0 := HB0.out
  have oe0 := HE0.out
  have od0 := HD0.out
  have oh1 := HB1.out
  have oe1 := HE1.out
  have od1 := HD1.out
  have oq0_1 := HD0_1.out
  have KOt18 : Hid (Keep [w6, w5, w1, w] t18) := KOt17.out.only ho (fun a ha b hb => by
    simp only [List.mem_cons, List.not_mem_nil, or_false] at ha
    rcases ha with rfl | rfl | rfl | rfl <;> omega)
  clear KOt17
  clear xX1_t17
  have xG_t18 := Lib.hid (xG_t17.out.only ho (fun g hg1 hg2 hb => by omega))
  clear xG_t17
  have gb_t18 := Lib.hid (gb_t17.out.only ho (fun hb => by omega))
  clear gb_t17
  clear hx ho o0 o1 o2 o3 oh0 oe0 od0 oh1 oe1 od1 oq0_1
  have c0 := gb_t18.out.c0
  have c1 := gb_t18.out.c1
  have c2 := gb_t18.out.c2
  have d0 := (zb.out.below KOt18.out.1).c0
  have d1 := (zb.out.below KOt18.out.1).c1
  have d2 := (zb.out.below KOt18.out.1).c2
  go_wp2_with fail
  refine (eqGame_at xG_t18.out.at (pG.out.below KOt18.out.2.1).at).mono ?_
  rintro e t19 ⟨rfl, hb⟩
  have xG_t19 := Lib.hid (xG_t18.out.below hb)
  clear xG_t18
  have gb_t19 := Lib.hid (gb_t18.out.below hb)
  clear gb_t18
  have Kt19 : Hid (Keep [w6, w5, w1, w] t19) := KOt18.out.step hb
  clear KOt18
  clear hb c0 d0 c1 d1 c2 d2
  have c0 := gb_t19.out.c0
  have c1 := gb_t19.out.c1
  have c2 := gb_t19.out.c2
  go_wp2_with fail
  refine (markGame_at MG.out xG_t19.out (by omega) (by omega) RSZ.out).mono ?_
  rintro e t20 ⟨rfl, hx, ho⟩
  have o0 := OW.out
  have o1 := OC.out
  have o2 := OP.out
  have o3 := HEG.out
  have oh0 := HB0.out
  have oe0 := HE0.out
  have od0 := HD0.out
  have oh1 := HB1.out
  have oe1 := HE1.out
  have od1 := HD1.out
  have oq0_1 := HD0_1.out
  have KOt20 : Hid (Keep [w6, w5, w1, w] t20) := Kt19.out.only ho (fun a ha b hb => by
    simp only [List.mem_cons, List.not_mem_nil, or_false] at ha
    rcases ha with rfl | rfl | rfl | rfl <;> omega)
  clear Kt19
  have M := Lib.hid hx
  have gbm := Lib.hid (gb_t19.out.only ho (fun hb => by omega))
  clear hx ho o0 o1 o2 o3 oh0 oe0 od0 oh1 oe1 od1 oq0_1 c0 c1 c2
  have Kat20 : Hid (Keep [t20, w6, w5, w1, w] t20) := KOt20.out.add
  clear KOt20
  have c0 := (gbm.out.below Kat20.out.1).c0
  have c1 := (gbm.out.below Kat20.out.1).c1
  have c2 := (gbm.out.below Kat20.out.1).c2
  go_wp2_with fail
  refine (heldGame_at MG.out (M.out.below Kat20.out.1).at (by omega) (by omega) RSZ.out).mono ?_
  rintro e t21 ⟨rfl, hb⟩
  have Kt21 : Hid (Keep [t20, w6, w5, w1, w] t21) := Kat20.out.step hb
  clear Kat20
  clear hb c0 c1 c2
  have c0 := (b0.out.below Kt21.out.2.2.2.1).c0
  have c1 := (b0.out.below Kt21.out.2.2.2.1).c1
  have c2 := (b0.out.below Kt21.out.2.2.2.1).c2
  go_wp2_with fail
  refine (toGame_at (H0.out.below Kt21.out.2.2.2.2.1) hn0).mono ?_
  rintro e w22 ⟨x, rfl, hu, hb⟩
  obtain ⟨ha0_0, hc0_0, ha0_1, hc0_1, ha0_2, hc0_2, hus⟩ := hu.shape
  subst hus
  have hX0 := Lib.hid hu
  have Kw22 : Hid (Keep [t20, w6, w5, w1, w] w22) := Kt21.out.step hb
  clear Kt21
  clear hu hb
  have Kaw22 : Hid (Keep [w22, t20, w6, w5, w1, w] w22) := Kw22.out.add
  clear Kw22
  clear c0 c1 c2
  go_wp2_with fail
  refine (toInts_own (H1.out.below Kaw22.out.2.2.2.2.2.1)).mono ?_
  rintro e w23 ⟨x, rfl, hu, hb⟩
  obtain ⟨ha1_0, hc1_0, hus⟩ := hu.shape2
  subst hus
  have hX1 := Lib.hid hu
  have Kw23 : Hid (Keep [w22, t20, w6, w5, w1, w] w23) := Kaw22.out.step hb
  clear Kaw22
  clear hu hb
  have Kaw23 : Hid (Keep [w23, w22, t20, w6, w5, w1, w] w23) := Kw23.out.add
  clear Kw23
  go_wp2_with fail
  refine (OnlyBy_is hc1_0 R0.out (hX0.out.below Kaw23.out.2.1).at (hX1.out.below Kaw23.out.1).v.at).mono ?_
  rintro e w24 ⟨x, rfl, hg, hb⟩
  obtain ⟨hga_0, hgc_0, hga_1, hgc_1, hga_2, hgc_2, hus⟩ := hg.shape
  subst hus
  have hG := Lib.hid hg
  have Kw24 : Hid (Keep [w23, w22, t20, w6, w5, w1, w] w24) := Kaw23.out.step hb
  clear Kaw23
  clear hb hg
  have Kaw24 : Hid (Keep [w24, w23, w22, t20, w6, w5, w1, w] w24) := Kw24.out.add
  clear Kw24
  obtain ⟨w25, hw25⟩ : ∃ y, y = w24.alloc (.cells #[.slice hga_0 rO.length hgc_0, .slice hga_1 rz.length hgc_1, .slice hga_2 rP.length hgc_2] 31) := ⟨_, rfl⟩
  have Hw25 := Lib.hid hw25
  have hb : Below w24.heap.size w24 w25 := by rw [hw25]; exact below1 _ _
  have hbx : Hid (Box3 w25 w24.heap.size 31 (.slice hga_0 rO.length hgc_0) (.slice hga_1 rz.length hgc_1) (.slice hga_2 rP.length hgc_2)) := by rw [hw25]; exact Box3.new _ _ _ _ _ 
  have Kw25 : Hid (Keep [w24, w23, w22, t20, w6, w5, w1, w] w25) := Kaw24.out.step hb
  clear Kaw24
  clear hb
  have Kaw25 : Hid (Keep [w25, w24, w23, w22, t20, w6, w5, w1, w] w25) := Kw25.out.add
  clear Kw25
  clear hw25
  have c0 := (hbx.out.below Kaw25.out.1).c0
  have c1 := (hbx.out.below Kaw25.out.1).c1
  have c2 := (hbx.out.below Kaw25.out.1).c2
  have c3 := (zb.out.below Kaw25.out.2.2.2.2.2.1).c0
  have c4 := (zb.out.below Kaw25.out.2.2.2.2.2.1).c1
  have c5 := (zb.out.below Kaw25.out.2.2.2.2.2.1).c2
  rw [Hw25.out] at c0 c1 c2 c3 c4 c5
  go_wp2_with fail
  rw [← Hw25.out]
  refine (eqGame_at (hG.out.below Kaw25.out.2.1).at (pG.out.below Kaw25.out.2.2.2.2.2.2.1).at).mono ?_
  rintro e w26 ⟨rfl, hb⟩
  have Kw26 : Hid (Keep [w25, w24, w23, w22, t20, w6, w5, w1, w] w26) := Kaw25.out.step hb
  clear Kaw25
  clear hb
  clear c0 c1 c2 c3 c4 c5
  have c0 := (gbm.out.below Kw26.out.2.2.2.2.1).c0
  have c1 := (gbm.out.below Kw26.out.2.2.2.2.1).c1
  have c2 := (gbm.out.below Kw26.out.2.2.2.2.1).c2
  go_wp2_with fail
  refine (heldGame_at MG.out (M.out.below Kw26.out.2.2.2.2.1).at (by omega) (by omega) RSZ.out).mono ?_
  rintro e t27 ⟨rfl, hb⟩
  have Kt27 : Hid (Keep [w25, w24, w23, w22, t20, w6, w5, w1, w] t27) := Kw26.out.step hb
  clear Kw26
  clear hb c0 c1 c2
  go_wp2
  go_ret
  exact ⟨rfl, Kt27.out.2.2.2.2.2.2.2.2.1⟩

end Go.Proofs.Ytjnbpllalbfeiaa
