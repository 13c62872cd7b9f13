/-
  The walk of the law FnExactFlipped.
-/
import Derived.Test.YtmobegiojhlakaaKitGame
import Derived.Test.YtmobegiojhlakaaKeep
import Derived.Test.YtmobegiojhlakaaGameImpl
import Derived.Deep.RegionHeld3
namespace Go.Proofs.Ytmobegiojhlakaa
open Go.RowKit

set_option maxHeartbeats 16000000 in
set_option maxRecDepth 100000 in
theorem lawFlipped {w : World} {v0 : Value} {O0 : List Int} {z0 : List (List Int)} {P0 : List Int} (h0 : GameAt w v0 O0 z0 P0) :
    Calls Try.prog 11 #[v0] w fun e w' => e = .returned (.bool true) ∧ Below w.heap.size w w' := by
  have H0 := Lib.hid h0
  obtain ⟨u0_0, u0_1, u0_2, d0_0, d0_1, d0_2, A0, C0, rfl, q0, q1, q2⟩ := h0
  clear q0 q1 q2
  obtain ⟨w1, hw1⟩ : ∃ y, y = (w.alloc (.cells #[.slice u0_0 O0.length d0_0, .slice u0_1 z0.length d0_1, .slice u0_2 P0.length d0_2] 52)) := ⟨_, rfl⟩
  have HW1 := Lib.hid hw1
  have B1 : Hid (Below w.heap.size w w1) := by rw [hw1]; exact below1 _ _
  have b0 : Hid (Box3 w1 (w.heap.size) 52 (.slice u0_0 O0.length d0_0) (.slice u0_1 z0.length d0_1) (.slice u0_2 P0.length d0_2)) := by rw [hw1]; exact Box3.new_at (by simp) _ _ _ _ 
  have K1 : Hid (Keep [w1, w] w1) := ⟨Below.refl _ _, B1.out, trivial⟩
  clear hw1
  by_cases hs0 : (1048576 : Int) < (sizeGame O0 z0 P0 : Int)
  · skip
    have HSn0 : Hid (∀ W, Below w.heap.size w W → Calls Try.prog 35 #[.agg #[.slice u0_0 O0.length d0_0, .slice u0_1 z0.length d0_1, .slice u0_2 P0.length d0_2], .int .i64 (1048576 : Int)] W fun e w' => e = .returned (.int .i64 (-1)) ∧ Below W.heap.size W w') := fun W hb => szGame_at (leftOf_no hs0) (H0.out.below hb) (by omega) (by omega)
    clear hs0
    go_enter Try.func11, Try.ntmps11
    go_wp2_with fail
    rw [← HW1.out]
    refine (HSn0.out _ K1.out.2.1).mono ?_
    rintro e w2 ⟨rfl, hb⟩
    have Kw2 : Hid (Keep [w1, w] w2) := K1.out.step hb
    clear K1
    clear hb
    go_wp2
    go_ret
    exact ⟨rfl, Kw2.out.2.1⟩
  have hle0 : (sizeGame O0 z0 P0 : Int) ≤ (1048576 : Int) := by omega
  obtain ⟨m0, hm0⟩ : ∃ m, leftOf (1048576 : Int) (sizeGame O0 z0 P0) = m := ⟨_, rfl⟩
  have hmv0 : m0 = (1048576 : Int) - (sizeGame O0 z0 P0 : Int) := by rw [← hm0]; exact leftOf_yes hle0
  have hml0 : 0 ≤ m0 := by omega
  have hmu0 : m0 ≤ 1048576 := by omega
  have HLE0 : Hid (sizeGame O0 z0 P0 ≤ 1048576) := by simp only [Hid]; omega
  have HS0 : Hid (∀ W, Below w.heap.size w W → Calls Try.prog 35 #[.agg #[.slice u0_0 O0.length d0_0, .slice u0_1 z0.length d0_1, .slice u0_2 P0.length d0_2], .int .i64 (1048576 : Int)] W fun e w' => e = .returned (.int .i64 m0) ∧ Below W.heap.size W w') := fun W hb => szGame_at hm0 (H0.out.below hb) (by omega) (by omega)
  have hn0 : z0.length ≤ 1048576 := by have := HLE0.out; unfold sizeGame at this; (try unfold sizeArena at this); omega
  clear hs0 hm0 hle0 hmv0
  have hRS := flip_size HLE0.out
  obtain ⟨rO, hrO⟩ : ∃ r, flipO O0 z0 P0 = r := ⟨_, rfl⟩
  obtain ⟨rz, hrz⟩ : ∃ r, flipN O0 z0 P0 = r := ⟨_, rfl⟩
  obtain ⟨rP, hrP⟩ : ∃ r, flipP O0 z0 P0 = r := ⟨_, rfl⟩
  obtain ⟨rb1, hrb1⟩ : ∃ r, flipB O0 z0 P0 = r := ⟨_, rfl⟩
  rw [hrO, hrz, hrP] at hRS
  have RSZ : Hid (sizeGame rO rz rP ≤ 1048576) := hRS
  have R0 := Lib.hid (And.intro hrO (And.intro hrz (And.intro hrP hrb1)))
  have hnerb1 : (rb1 != rb1) = false := by simp
  clear hrO hrz hrP hrb1 hRS
  obtain ⟨mk0, hmk0⟩ : ∃ r : Int, (1 : Int) + (O0.length : Int) + (sumLen z0 z0.length : Int) + (P0.length : Int) = r := ⟨_, rfl⟩
  have MK0 := Lib.hid hmk0
  have hmkl0 : 0 ≤ mk0 := by omega
  have hmku0 : mk0 ≤ 1048577 := by have := HLE0.out; unfold sizeGame at this; (try unfold sizeArena at this); omega
  obtain ⟨mg, hmg⟩ : ∃ r : Int, (1 : Int) + (rO.length : Int) + (sumLen rz rz.length : Int) + (rP.length : Int) = r := ⟨_, rfl⟩
  have MG := Lib.hid hmg
  have hmg0 : 0 ≤ mg := by omega
  have hmgn : (mg != mg) = false := by simp
  clear hmg hmk0
  go_enter Try.func11, Try.ntmps11
  go_wp2_with fail
  rw [← HW1.out]
  refine (HS0.out _ K1.out.2.1).mono ?_
  rintro e w2 ⟨rfl, hb⟩
  have Kw2 : Hid (Keep [w1, w] w2) := K1.out.step hb
  clear K1
  clear hb
  have c0 := (b0.out.below Kw2.out.1).c0
  have c1 := (b0.out.below Kw2.out.1).c1
  have c2 := (b0.out.below Kw2.out.1).c2
  go_wp2_with fail
  refine (toGame_at (H0.out.below Kw2.out.2.1) hn0).mono ?_
  rintro e w3 ⟨x, rfl, hu, hb⟩
  obtain ⟨pa0_0, pc0_0, pa0_1, pc0_1, pa0_2, pc0_2, hus⟩ := hu.shape
  subst hus
  have pX0 := Lib.hid hu
  have Kw3 : Hid (Keep [w1, w] w3) := Kw2.out.step hb
  clear Kw2
  clear hu hb
  have Kaw3 : Hid (Keep [w3, w1, w] w3) := Kw3.out.add
  clear Kw3
  clear c0 c1 c2
  go_wp2_with fail
  refine (specFlipped_is  R0.out (pX0.out.below Kaw3.out.1).at).mono ?_
  rintro e w4 ⟨x, rfl, hg, hb⟩
  obtain ⟨pga_0, pgc_0, pga_1, pgc_1, pga_2, pgc_2, hus⟩ := hg.shape
  subst hus
  have pG := Lib.hid hg
  have Kw4 : Hid (Keep [w3, w1, w] w4) := Kaw3.out.step hb
  clear Kaw3
  clear hb hg
  have Kaw4 : Hid (Keep [w4, w3, w1, w] w4) := Kw4.out.add
  clear Kw4
  obtain ⟨w5, hw5⟩ : ∃ y, y = w4.alloc (.cells #[.slice pga_0 rO.length pgc_0, .slice pga_1 rz.length pgc_1, .slice pga_2 rP.length pgc_2] 32) := ⟨_, rfl⟩
  have Hw5 := Lib.hid hw5
  have hb : Below w4.heap.size w4 w5 := by rw [hw5]; exact below1 _ _
  have zb : Hid (Box3 w5 w4.heap.size 32 (.slice pga_0 rO.length pgc_0) (.slice pga_1 rz.length pgc_1) (.slice pga_2 rP.length pgc_2)) := by rw [hw5]; exact Box3.new _ _ _ _ _ 
  have Kw5 : Hid (Keep [w4, w3, w1, w] w5) := Kaw4.out.step hb
  clear Kaw4
  clear hb
  have Kaw5 : Hid (Keep [w5, w4, w3, w1, w] w5) := Kw5.out.add
  clear Kw5
  have c0 := (b0.out.below Kaw5.out.2.2.2.1).c0
  have c1 := (b0.out.below Kaw5.out.2.2.2.1).c1
  have c2 := (b0.out.below Kaw5.out.2.2.2.1).c2
  rw [hw5] at c0 c1 c2
  clear hw5
  have OW : Hid (w.heap.size ≤ w1.heap.size) := B1.out.size
  have OC : Hid (w1.heap.size ≤ w5.heap.size) := Kaw5.out.2.2.2.1.size
  have OP : Hid (w4.heap.size ≤ w5.heap.size) := Kaw5.out.2.1.size
  go_wp2_with fail
  rw [← Hw5.out]
  have HB0 : Hid (w5.heap.size ≤ w5.heap.size) := Kaw5.out.1.size
  refine (toGame_at (H0.out.below Kaw5.out.2.2.2.2.1) hn0).mono ?_
  rintro e w6 ⟨x, rfl, hu, hb⟩
  obtain ⟨xa0_0, xc0_0, xa0_1, xc0_1, xa0_2, xc0_2, hus⟩ := hu.shape
  subst hus
  have xX0 := Lib.hid hu
  have HE0 : Hid (w5.heap.size ≤ w6.heap.size) := hb.size
  have Kw6 : Hid (Keep [w5, w4, w3, w1, w] w6) := Kaw5.out.step hb
  clear Kaw5
  clear hu hb
  have Kaw6 : Hid (Keep [w6, w5, w4, w3, w1, w] w6) := Kw6.out.add
  clear Kw6
  clear c0 c1 c2
  obtain ⟨w7, hw7⟩ : ∃ y, y = w6.alloc (.cells #[.slice xa0_0 O0.length xc0_0, .slice xa0_1 z0.length xc0_1, .slice xa0_2 P0.length xc0_2] 32) := ⟨_, rfl⟩
  have Hw7 := Lib.hid hw7
  have hb : Below w6.heap.size w6 w7 := by rw [hw7]; exact below1 _ _
  have xb0 : Hid (Box3 w7 w6.heap.size 32 (.slice xa0_0 O0.length xc0_0) (.slice xa0_1 z0.length xc0_1) (.slice xa0_2 P0.length xc0_2)) := by rw [hw7]; exact Box3.new _ _ _ _ _ 
  have Kw7 : Hid (Keep [w6, w5, w4, w3, w1, w] w7) := Kaw6.out.step hb
  clear Kaw6
  clear hb
  have Kaw7 : Hid (Keep [w7, w6, w5, w4, w3, w1, w] w7) := Kw7.out.add
  clear Kw7
  clear hw7
  have c0 := (xb0.out.below Kaw7.out.1).c0
  have c1 := (xb0.out.below Kaw7.out.1).c1
  have c2 := (xb0.out.below Kaw7.out.1).c2
  rw [Hw7.out] at c0 c1 c2
  go_wp2_with fail
  rw [← Hw7.out]
  have HD0 : Hid (w6.heap.size ≤ w7.heap.size) := Kaw7.out.2.1.size
  refine (Flipped_is  R0.out (xX0.out.below Kaw7.out.2.1).at).mono ?_
  rintro e w8 ⟨x, rfl, hg, hb⟩
  obtain ⟨xga_0, xgc_0, xga_1, xgc_1, xga_2, xgc_2, hus⟩ := hg.shape
  subst hus
  have xG := Lib.hid hg
  have HEG : Hid (w7.heap.size ≤ w8.heap.size) := hb.size
  have Kw8 : Hid (Keep [w7, w6, w5, w4, w3, w1, w] w8) := Kaw7.out.step hb
  clear Kaw7
  clear hb hg
  have Kaw8 : Hid (Keep [w8, w7, w6, w5, w4, w3, w1, w] w8) := Kw8.out.add
  clear Kw8
  clear c0 c1 c2
  obtain ⟨w9, hw9⟩ : ∃ y, y = w8.alloc (.cells #[.slice xga_0 rO.length xgc_0, .slice xga_1 rz.length xgc_1, .slice xga_2 rP.length xgc_2] 32) := ⟨_, rfl⟩
  have Hw9 := Lib.hid hw9
  have hb : Below w8.heap.size w8 w9 := by rw [hw9]; exact below1 _ _
  have gb : Hid (Box3 w9 w8.heap.size 32 (.slice xga_0 rO.length xgc_0) (.slice xga_1 rz.length xgc_1) (.slice xga_2 rP.length xgc_2)) := by rw [hw9]; exact Box3.new _ _ _ _ _ 
  have Kw9 : Hid (Keep [w8, w7, w6, w5, w4, w3, w1, w] w9) := Kaw8.out.step hb
  clear Kaw8
  clear hb
  have Kaw9 : Hid (Keep [w9, w8, w7, w6, w5, w4, w3, w1, w] w9) := Kw9.out.add
  clear Kw9
  clear hw9
  have c0 := (gb.out.below Kaw9.out.1).c0
  have c1 := (gb.out.below Kaw9.out.1).c1
  have c2 := (gb.out.below Kaw9.out.1).c2
  have c3 := (zb.out.below Kaw9.out.2.2.2.2.1).c0
  have c4 := (zb.out.below Kaw9.out.2.2.2.2.1).c1
  have c5 := (zb.out.below Kaw9.out.2.2.2.2.1).c2
  rw [Hw9.out] at c0 c1 c2 c3 c4 c5
  go_wp2_with fail
  rw [← Hw9.out]
  refine (eqGame_at (xG.out.below Kaw9.out.2.1).at (pG.out.below Kaw9.out.2.2.2.2.2.1).at).mono ?_
  rintro e w10 ⟨rfl, hb⟩
  have Kw10 : Hid (Keep [w9, w8, w7, w6, w5, w4, w3, w1, w] w10) := Kaw9.out.step hb
  clear Kaw9
  clear hb
  clear c0 c1 c2 c3 c4 c5
  have c0 := (b0.out.below Kw10.out.2.2.2.2.2.2.2.1).c0
  have c1 := (b0.out.below Kw10.out.2.2.2.2.2.2.2.1).c1
  have c2 := (b0.out.below Kw10.out.2.2.2.2.2.2.2.1).c2
  have c3 := (xb0.out.below Kw10.out.2.2.1).c0
  have c4 := (xb0.out.below Kw10.out.2.2.1).c1
  have c5 := (xb0.out.below Kw10.out.2.2.1).c2
  have Kdw10 : Hid (Keep [w9, w8, w7, w6, w5, w4, w3, w1, w] w10.drew) := Kw10.out.step (Below.refl _ _).drew
  go_wp2_with fail
  go_region_held3 (fun w' => w'.cell? ⟨w.heap.size, 0, none⟩ = some (.slice u0_0 O0.length d0_0) ∧ w'.cell? ⟨w.heap.size, 1, none⟩ = some (.slice u0_1 z0.length d0_1) ∧ w'.cell? ⟨w.heap.size, 2, none⟩ = some (.slice u0_2 P0.length d0_2) ∧ w'.cell? ⟨w6.heap.size, 0, none⟩ = some (.slice xa0_0 O0.length xc0_0) ∧ w'.cell? ⟨w6.heap.size, 1, none⟩ = some (.slice xa0_1 z0.length xc0_1) ∧ w'.cell? ⟨w6.heap.size, 2, none⟩ = some (.slice xa0_2 P0.length xc0_2))
    (first
      | go_keep
      | exact ⟨d0, d1, d2, d3, d4, d5⟩
      | exact ⟨f0, f1, f2, f3, f4, f5⟩)
    (first
      | (go_at_call 36; refine (toGame_at (H0.out.below Kdw10.out.2.2.2.2.2.2.2.2.1) hn0).mono ?_; rintro e w11 ⟨x, rfl, hu, hb⟩; obtain ⟨ya0_0, yc0_0, ya0_1, yc0_1, ya0_2, yc0_2, hus⟩ := hu.shape; subst hus; have yX0 := Lib.hid hu; have Kw11 : Hid (Keep [w9, w8, w7, w6, w5, w4, w3, w1, w] w11) := Kdw10.out.step hb; have d0 := (b0.out.below Kw11.out.2.2.2.2.2.2.2.1).c0; have d1 := (b0.out.below Kw11.out.2.2.2.2.2.2.2.1).c1; have d2 := (b0.out.below Kw11.out.2.2.2.2.2.2.2.1).c2; have d3 := (xb0.out.below Kw11.out.2.2.1).c0; have d4 := (xb0.out.below Kw11.out.2.2.1).c1; have d5 := (xb0.out.below Kw11.out.2.2.1).c2; have Kaw11 : Hid (Keep [w11, w9, w8, w7, w6, w5, w4, w3, w1, w] w11) := Kw11.out.add; clear hu hb)
      | (go_at_call 38; refine (eqGame_at (xX0.out.below Kaw11.out.2.2.2.2.1).at (yX0.out.below Kaw11.out.1).at).mono ?_; rintro e w12 ⟨rfl, hb⟩; have Kw12 : Hid (Keep [w11, w9, w8, w7, w6, w5, w4, w3, w1, w] w12) := Kaw11.out.step hb; have f0 := (b0.out.below Kw12.out.2.2.2.2.2.2.2.2.1).c0; have f1 := (b0.out.below Kw12.out.2.2.2.2.2.2.2.2.1).c1; have f2 := (b0.out.below Kw12.out.2.2.2.2.2.2.2.2.1).c2; have f3 := (xb0.out.below Kw12.out.2.2.2.1).c0; have f4 := (xb0.out.below Kw12.out.2.2.2.1).c1; have f5 := (xb0.out.below Kw12.out.2.2.2.1).c2; clear hb))
  clear c0 d0 f0 c1 d1 f1 c2 d2 f2 c3 d3 f3 c4 d4 f4 c5 d5 f5
  have Kzw12 : Hid (Keep [w9, w8, w7, w6, w5, w4, w3, w1, w] w12) := Kw12.out.2
  clear Kdw10 Kw11 Kaw11 yX0
  have xX0_w12 := Lib.hid (xX0.out.below Kzw12.out.2.2.2.1)
  have xb0_w12 := Lib.hid (xb0.out.below Kzw12.out.2.2.1)
  have xG_w12 := Lib.hid (xG.out.below Kzw12.out.2.1)
  have gb_w12 := Lib.hid (gb.out.below Kzw12.out.1)
  have KBw12 : Hid (Keep [w5, w4, w1, w] w12) := ⟨Kzw12.out.2.2.2.2.1, Kzw12.out.2.2.2.2.2.1, Kzw12.out.2.2.2.2.2.2.2.1, Kzw12.out.2.2.2.2.2.2.2.2.1, trivial⟩
  clear Kzw12
  have c0 := xb0_w12.out.c0
  have c1 := xb0_w12.out.c1
  have c2 := xb0_w12.out.c2
  go_wp2_with fail
  refine (markGame_at MK0.out xX0_w12.out (by omega) (by omega) HLE0.out).mono ?_
  rintro e t13 ⟨rfl, hx, ho⟩
  have o0 := OW.out
  have o1 := OC.out
  have o2 := OP.out
  have o3 := HEG.out
  have oh0 := HB0.out
  have oe0 := HE0.out
  have od0 := HD0.out
  have KOt13 : Hid (Keep [w5, w4, w1, w] t13) := KBw12.out.only ho (fun a ha b hb => by
    simp only [List.mem_cons, List.not_mem_nil, or_false] at ha
    rcases ha with rfl | rfl | rfl | rfl <;> omega)
  clear KBw12
  clear xX0_w12
  clear xb0_w12
  have xG_t13 := Lib.hid (xG_w12.out.only ho (fun g hg1 hg2 hb => by omega))
  clear xG_w12
  have gb_t13 := Lib.hid (gb_w12.out.only ho (fun hb => by omega))
  clear gb_w12
  clear hx ho o0 o1 o2 o3 oh0 oe0 od0 c0 c1 c2
  have c0 := gb_t13.out.c0
  have c1 := gb_t13.out.c1
  have c2 := gb_t13.out.c2
  have d0 := (zb.out.below KOt13.out.1).c0
  have d1 := (zb.out.below KOt13.out.1).c1
  have d2 := (zb.out.below KOt13.out.1).c2
  go_wp2_with fail
  refine (eqGame_at xG_t13.out.at (pG.out.below KOt13.out.2.1).at).mono ?_
  rintro e t14 ⟨rfl, hb⟩
  have xG_t14 := Lib.hid (xG_t13.out.below hb)
  clear xG_t13
  have gb_t14 := Lib.hid (gb_t13.out.below hb)
  clear gb_t13
  have Kt14 : Hid (Keep [w5, w4, w1, w] t14) := KOt13.out.step hb
  clear KOt13
  clear hb c0 d0 c1 d1 c2 d2
  have c0 := gb_t14.out.c0
  have c1 := gb_t14.out.c1
  have c2 := gb_t14.out.c2
  go_wp2_with fail
  refine (markGame_at MG.out xG_t14.out (by omega) (by omega) RSZ.out).mono ?_
  rintro e t15 ⟨rfl, hx, ho⟩
  have o0 := OW.out
  have o1 := OC.out
  have o2 := OP.out
  have o3 := HEG.out
  have oh0 := HB0.out
  have oe0 := HE0.out
  have od0 := HD0.out
  have KOt15 : Hid (Keep [w5, w4, w1, w] t15) := Kt14.out.only ho (fun a ha b hb => by
    simp only [List.mem_cons, List.not_mem_nil, or_false] at ha
    rcases ha with rfl | rfl | rfl | rfl <;> omega)
  clear Kt14
  have M := Lib.hid hx
  have gbm := Lib.hid (gb_t14.out.only ho (fun hb => by omega))
  clear hx ho o0 o1 o2 o3 oh0 oe0 od0 c0 c1 c2
  have Kat15 : Hid (Keep [t15, w5, w4, w1, w] t15) := KOt15.out.add
  clear KOt15
  have c0 := (gbm.out.below Kat15.out.1).c0
  have c1 := (gbm.out.below Kat15.out.1).c1
  have c2 := (gbm.out.below Kat15.out.1).c2
  go_wp2_with fail
  refine (heldGame_at MG.out (M.out.below Kat15.out.1).at (by omega) (by omega) RSZ.out).mono ?_
  rintro e t16 ⟨rfl, hb⟩
  have Kt16 : Hid (Keep [t15, w5, w4, w1, w] t16) := Kat15.out.step hb
  clear Kat15
  clear hb c0 c1 c2
  have c0 := (b0.out.below Kt16.out.2.2.2.1).c0
  have c1 := (b0.out.below Kt16.out.2.2.2.1).c1
  have c2 := (b0.out.below Kt16.out.2.2.2.1).c2
  go_wp2_with fail
  refine (toGame_at (H0.out.below Kt16.out.2.2.2.2.1) hn0).mono ?_
  rintro e w17 ⟨x, rfl, hu, hb⟩
  obtain ⟨ha0_0, hc0_0, ha0_1, hc0_1, ha0_2, hc0_2, hus⟩ := hu.shape
  subst hus
  have hX0 := Lib.hid hu
  have Kw17 : Hid (Keep [t15, w5, w4, w1, w] w17) := Kt16.out.step hb
  clear Kt16
  clear hu hb
  have Kaw17 : Hid (Keep [w17, t15, w5, w4, w1, w] w17) := Kw17.out.add
  clear Kw17
  clear c0 c1 c2
  go_wp2_with fail
  refine (Flipped_is  R0.out (hX0.out.below Kaw17.out.1).at).mono ?_
  rintro e w18 ⟨x, rfl, hg, hb⟩
  obtain ⟨hga_0, hgc_0, hga_1, hgc_1, hga_2, hgc_2, hus⟩ := hg.shape
  subst hus
  have hG := Lib.hid hg
  have Kw18 : Hid (Keep [w17, t15, w5, w4, w1, w] w18) := Kaw17.out.step hb
  clear Kaw17
  clear hb hg
  have Kaw18 : Hid (Keep [w18, w17, t15, w5, w4, w1, w] w18) := Kw18.out.add
  clear Kw18
  obtain ⟨w19, hw19⟩ : ∃ y, y = w18.alloc (.cells #[.slice hga_0 rO.length hgc_0, .slice hga_1 rz.length hgc_1, .slice hga_2 rP.length hgc_2] 32) := ⟨_, rfl⟩
  have Hw19 := Lib.hid hw19
  have hb : Below w18.heap.size w18 w19 := by rw [hw19]; exact below1 _ _
  have hbx : Hid (Box3 w19 w18.heap.size 32 (.slice hga_0 rO.length hgc_0) (.slice hga_1 rz.length hgc_1) (.slice hga_2 rP.length hgc_2)) := by rw [hw19]; exact Box3.new _ _ _ _ _ 
  have Kw19 : Hid (Keep [w18, w17, t15, w5, w4, w1, w] w19) := Kaw18.out.step hb
  clear Kaw18
  clear hb
  have Kaw19 : Hid (Keep [w19, w18, w17, t15, w5, w4, w1, w] w19) := Kw19.out.add
  clear Kw19
  clear hw19
  have c0 := (hbx.out.below Kaw19.out.1).c0
  have c1 := (hbx.out.below Kaw19.out.1).c1
  have c2 := (hbx.out.below Kaw19.out.1).c2
  have c3 := (zb.out.below Kaw19.out.2.2.2.2.1).c0
  have c4 := (zb.out.below Kaw19.out.2.2.2.2.1).c1
  have c5 := (zb.out.below Kaw19.out.2.2.2.2.1).c2
  rw [Hw19.out] at c0 c1 c2 c3 c4 c5
  go_wp2_with fail
  rw [← Hw19.out]
  refine (eqGame_at (hG.out.below Kaw19.out.2.1).at (pG.out.below Kaw19.out.2.2.2.2.2.1).at).mono ?_
  rintro e w20 ⟨rfl, hb⟩
  have Kw20 : Hid (Keep [w19, w18, w17, t15, w5, w4, w1, w] w20) := Kaw19.out.step hb
  clear Kaw19
  clear hb
  clear c0 c1 c2 c3 c4 c5
  have c0 := (gbm.out.below Kw20.out.2.2.2.1).c0
  have c1 := (gbm.out.below Kw20.out.2.2.2.1).c1
  have c2 := (gbm.out.below Kw20.out.2.2.2.1).c2
  go_wp2_with fail
  refine (heldGame_at MG.out (M.out.below Kw20.out.2.2.2.1).at (by omega) (by omega) RSZ.out).mono ?_
  rintro e t21 ⟨rfl, hb⟩
  have Kt21 : Hid (Keep [w19, w18, w17, t15, w5, w4, w1, w] t21) := Kw20.out.step hb
  clear Kw20
  clear hb c0 c1 c2
  go_wp2
  go_ret
  exact ⟨rfl, Kt21.out.2.2.2.2.2.2.2.1⟩

end Go.Proofs.Ytmobegiojhlakaa
