/-
  The walk of the law FnExactPartOf.
-/
import Derived.Test.YtokcinhopajniaaKitGame
import Derived.Test.YtokcinhopajniaaWalks1
import Derived.Test.YtokcinhopajniaaKitAnswer
import Derived.Test.YtokcinhopajniaaAnswerOkSpec
import Derived.Test.YtokcinhopajniaaAnswerImpl
import Derived.Deep.RegionHeld3
namespace Go.Proofs.Ytokcinhopajniaa
open Go.RowKit

set_option maxHeartbeats 16000000 in
set_option maxRecDepth 100000 in
theorem lawPartOf {w : World} {v0 : Value} {O0 : List Int} {z0 : List (List Int)} {P0 : List Int} {v1 : Value} {X1 : List Int} {Y1 : List Int} {n2 : Int} (h0 : GameAt w v0 O0 z0 P0) (h1 : LassoAt w v1 X1 Y1) :
    Calls Try.prog 4 #[v0, v1, .int .i64 n2] w fun e w' => e = .returned (.bool true) ∧ Below w.heap.size w w' := by
  have H0 := Lib.hid h0
  obtain ⟨u0_0, u0_1, u0_2, d0_0, d0_1, d0_2, A0, C0, rfl, q0, q1, q2⟩ := h0
  clear q0 q1 q2
  have H1 := Lib.hid h1
  obtain ⟨u1_0, u1_1, d1_0, d1_1, rfl, q0, q1⟩ := h1
  clear q0 q1
  obtain ⟨w1, hw1⟩ : ∃ y, y = ((w.alloc (.cells #[.slice u0_0 O0.length d0_0, .slice u0_1 z0.length d0_1, .slice u0_2 P0.length d0_2] 38)).alloc (.cells #[.slice u1_0 X1.length d1_0, .slice u1_1 Y1.length d1_1] 24)) := ⟨_, rfl⟩
  have HW1 := Lib.hid hw1
  have B1 : Hid (Below w.heap.size w w1) := by rw [hw1]; exact below2 _ _ _
  have b0 : Hid (Box3 w1 (w.heap.size) 38 (.slice u0_0 O0.length d0_0) (.slice u0_1 z0.length d0_1) (.slice u0_2 P0.length d0_2)) := by rw [hw1]; exact (Box3.new_at (by simp) _ _ _ _ ).alloc _
  have b1 : Hid (Box2 w1 (w.heap.size + 1) 24 (.slice u1_0 X1.length d1_0) (.slice u1_1 Y1.length d1_1)) := by rw [hw1]; exact Box2.new_at (by simp) _ _ _ 
  have K1 : Hid (Keep [w1, w] w1) := ⟨Below.refl _ _, B1.out, trivial⟩
  clear hw1
  by_cases hs0 : (1048576 : Int) < (sizeGame O0 z0 P0 : Int)
  · skip
    have HSn0 : Hid (∀ W, Below w.heap.size w W → Calls Try.prog 14 #[.agg #[.slice u0_0 O0.length d0_0, .slice u0_1 z0.length d0_1, .slice u0_2 P0.length d0_2], .int .i64 (1048576 : Int)] W fun e w' => e = .returned (.int .i64 (-1)) ∧ Below W.heap.size W w') := fun W hb => szGame_at (leftOf_no hs0) (H0.out.below hb) (by omega) (by omega)
    clear hs0
    go_enter Try.func4, Try.ntmps4
    go_wp2_with fail
    rw [← HW1.out]
    refine (HSn0.out _ K1.out.2.1).mono ?_
    rintro e w2 ⟨rfl, hb⟩
    have Kw2 : Hid (Keep [w1, w] w2) := K1.out.step hb
    clear K1
    clear hb
    go_wp2
    go_ret
    exact ⟨rfl, Kw2.out.2.1⟩
  have hle0 : (sizeGame O0 z0 P0 : Int) ≤ (1048576 : Int) := by omega
  obtain ⟨m0, hm0⟩ : ∃ m, leftOf (1048576 : Int) (sizeGame O0 z0 P0) = m := ⟨_, rfl⟩
  have hmv0 : m0 = (1048576 : Int) - (sizeGame O0 z0 P0 : Int) := by rw [← hm0]; exact leftOf_yes hle0
  have hml0 : 0 ≤ m0 := by omega
  have hmu0 : m0 ≤ 1048576 := by omega
  have HLE0 : Hid (sizeGame O0 z0 P0 ≤ 1048576) := by simp only [Hid]; omega
  have HS0 : Hid (∀ W, Below w.heap.size w W → Calls Try.prog 14 #[.agg #[.slice u0_0 O0.length d0_0, .slice u0_1 z0.length d0_1, .slice u0_2 P0.length d0_2], .int .i64 (1048576 : Int)] W fun e w' => e = .returned (.int .i64 m0) ∧ Below W.heap.size W w') := fun W hb => szGame_at hm0 (H0.out.below hb) (by omega) (by omega)
  have hn0 : z0.length ≤ 1048576 := by have := HLE0.out; unfold sizeGame at this; (try unfold sizeArena at this); omega
  clear hs0 hm0 hle0 hmv0
  by_cases hs1 : m0 < (sizeLasso X1 Y1 : Int)
  · skip
    have HSn1 : Hid (∀ W, Below w.heap.size w W → Calls Try.prog 5 #[.agg #[.slice u1_0 X1.length d1_0, .slice u1_1 Y1.length d1_1], .int .i64 m0] W fun e w' => e = .returned (.int .i64 (-1)) ∧ Below W.heap.size W w') := fun W hb => szAnswer_at (leftOf_no hs1) (H1.out.below hb) (by omega) (by omega)
    clear hs1
    go_enter Try.func4, Try.ntmps4
    go_wp2_with fail
    rw [← HW1.out]
    refine (HS0.out _ K1.out.2.1).mono ?_
    rintro e w2 ⟨rfl, hb⟩
    have Kw2 : Hid (Keep [w1, w] w2) := K1.out.step hb
    clear K1
    clear hb
    have c0 := (b1.out.below Kw2.out.1).cell0
    have c1 := (b1.out.below Kw2.out.1).cell1
    go_wp2_with fail
    refine (HSn1.out _ Kw2.out.2.1).mono ?_
    rintro e w3 ⟨rfl, hb⟩
    have Kw3 : Hid (Keep [w1, w] w3) := Kw2.out.step hb
    clear Kw2
    clear hb c0 c1
    go_wp2
    go_ret
    exact ⟨rfl, Kw3.out.2.1⟩
  have hle1 : (sizeLasso X1 Y1 : Int) ≤ m0 := by omega
  obtain ⟨m1, hm1⟩ : ∃ m, leftOf m0 (sizeLasso X1 Y1) = m := ⟨_, rfl⟩
  have hmv1 : m1 = m0 - (sizeLasso X1 Y1 : Int) := by rw [← hm1]; exact leftOf_yes hle1
  have hml1 : 0 ≤ m1 := by omega
  have hmu1 : m1 ≤ 1048576 := by omega
  have HLE1 : Hid (sizeLasso X1 Y1 ≤ 1048576) := by simp only [Hid]; omega
  have HS1 : Hid (∀ W, Below w.heap.size w W → Calls Try.prog 5 #[.agg #[.slice u1_0 X1.length d1_0, .slice u1_1 Y1.length d1_1], .int .i64 m0] W fun e w' => e = .returned (.int .i64 m1) ∧ Below W.heap.size W w') := fun W hb => szAnswer_at hm1 (H1.out.below hb) (by omega) (by omega)
  clear hs1 hm1 hle1 hmv1
  obtain ⟨rS, hrS⟩ : ∃ r, partL O0 z0 P0 X1 Y1 n2 = r := ⟨_, rfl⟩
  have R0 := Lib.hid hrS
  clear hrS
  obtain ⟨mk0, hmk0⟩ : ∃ r : Int, (1 : Int) + (O0.length : Int) + (sumLen z0 z0.length : Int) + (P0.length : Int) = r := ⟨_, rfl⟩
  have MK0 := Lib.hid hmk0
  have hmkl0 : 0 ≤ mk0 := by omega
  have hmku0 : mk0 ≤ 1048577 := by have := HLE0.out; unfold sizeGame at this; (try unfold sizeArena at this); omega
  obtain ⟨mk1, hmk1⟩ : ∃ r : Int, mk0 + (X1.length : Int) + (Y1.length : Int) = r := ⟨_, rfl⟩
  have MK1 := Lib.hid hmk1
  have hmkl1 : 0 ≤ mk1 := by omega
  have hmku1 : mk1 ≤ 2097153 := by have := HLE1.out; unfold sizeLasso at this; (try unfold sizeArena at this); omega
  obtain ⟨mg, hmg⟩ : ∃ r : Int, (1 : Int) + (rS.length : Int) = r := ⟨_, rfl⟩
  have MG := Lib.hid hmg
  have hmg0 : 0 ≤ mg := by omega
  have hmgn : (mg != mg) = false := by simp
  clear hmg hmk0 hmk1
  go_enter Try.func4, Try.ntmps4
  go_wp2_with fail
  rw [← HW1.out]
  refine (HS0.out _ K1.out.2.1).mono ?_
  rintro e w2 ⟨rfl, hb⟩
  have Kw2 : Hid (Keep [w1, w] w2) := K1.out.step hb
  clear K1
  clear hb
  have c0 := (b1.out.below Kw2.out.1).cell0
  have c1 := (b1.out.below Kw2.out.1).cell1
  go_wp2_with fail
  refine (HS1.out _ Kw2.out.2.1).mono ?_
  rintro e w3 ⟨rfl, hb⟩
  have Kw3 : Hid (Keep [w1, w] w3) := Kw2.out.step hb
  clear Kw2
  clear hb c0 c1
  have c0 := (b0.out.below Kw3.out.1).c0
  have c1 := (b0.out.below Kw3.out.1).c1
  have c2 := (b0.out.below Kw3.out.1).c2
  have c3 := (b1.out.below Kw3.out.1).cell0
  have c4 := (b1.out.below Kw3.out.1).cell1
  have tok0 : True := trivial
  have tok1 : True := trivial
  have Kdw3 : Hid (Keep [w1, w] w3.drew) := Kw3.out.step (Below.refl _ _).drew
  clear Kw3
  go_wp2_with fail
  go_region_held3 (fun w' => w'.cell? ⟨w.heap.size, 0, none⟩ = some (.slice u0_0 O0.length d0_0) ∧ w'.cell? ⟨w.heap.size, 1, none⟩ = some (.slice u0_1 z0.length d0_1) ∧ w'.cell? ⟨w.heap.size, 2, none⟩ = some (.slice u0_2 P0.length d0_2) ∧ w'.cell? ⟨w.heap.size + 1, 0, none⟩ = some (.slice u1_0 X1.length d1_0) ∧ w'.cell? ⟨w.heap.size + 1, 1, none⟩ = some (.slice u1_1 Y1.length d1_1))
    (first
      | go_keep
      | exact ⟨e0, e1, e2, e3, e4⟩
      | exact ⟨f0, f1, f2, f3, f4⟩
      | exact ⟨g0, g1, g2, g3, g4⟩)
    (first
      | (go_at_call 16; have _t := tok0; refine (toGame_at (H0.out.below Kdw3.out.2.1) hn0).mono ?_; rintro e w4 ⟨x, rfl, hu, hb⟩; obtain ⟨pa0_0, pc0_0, pa0_1, pc0_1, pa0_2, pc0_2, hus⟩ := hu.shape; subst hus; have pX0 := Lib.hid hu; have Kw4 : Hid (Keep [w4, w1, w] w4) := (Kdw3.out.step hb).add; have e0 := (b0.out.below Kw4.out.2.1).c0; have e1 := (b0.out.below Kw4.out.2.1).c1; have e2 := (b0.out.below Kw4.out.2.1).c2; have e3 := (b1.out.below Kw4.out.2.1).cell0; have e4 := (b1.out.below Kw4.out.2.1).cell1; clear hu hb tok0)
      | (go_at_call 7; have _t := tok1; refine (toAnswer_at (H1.out.below Kw4.out.2.2.1)).mono ?_; rintro e w5 ⟨x, rfl, hu, hb⟩; obtain ⟨pa1_0, pc1_0, pa1_1, pc1_1, hus⟩ := hu.shape; subst hus; have pX1 := Lib.hid hu; have Kw5 : Hid (Keep [w5, w4, w1, w] w5) := (Kw4.out.step hb).add; have f0 := (b0.out.below Kw5.out.2.2.1).c0; have f1 := (b0.out.below Kw5.out.2.2.1).c1; have f2 := (b0.out.below Kw5.out.2.2.1).c2; have f3 := (b1.out.below Kw5.out.2.2.1).cell0; have f4 := (b1.out.below Kw5.out.2.2.1).cell1; clear hu hb tok1)
      | (go_at_call 15; refine (specPartOf_is  R0.out (pX0.out.below Kw5.out.2.1).at (pX1.out.below Kw5.out.1).at).mono ?_; rintro e w6 ⟨x, rfl, hg, hb⟩; obtain ⟨pga_0, pgc_0, hus⟩ := hg.shape2; subst hus; have pG := Lib.hid hg; have Kw6 : Hid (Keep [w6, w5, w4, w1, w] w6) := (Kw5.out.step hb).add; have g0 := (b0.out.below Kw6.out.2.2.2.1).c0; have g1 := (b0.out.below Kw6.out.2.2.2.1).c1; have g2 := (b0.out.below Kw6.out.2.2.2.1).c2; have g3 := (b1.out.below Kw6.out.2.2.2.1).cell0; have g4 := (b1.out.below Kw6.out.2.2.2.1).cell1; clear hb hg))
  clear c0 c1 c2 c3 c4 e0 e1 e2 e3 e4 f0 f1 f2 f3 f4 g0 g1 g2 g3 g4
  have OW : Hid (w.heap.size ≤ w1.heap.size) := B1.out.size
  have OC : Hid (w1.heap.size ≤ w6.heap.size) := Kw6.out.2.2.2.1.size
  have OP : Hid (w6.heap.size ≤ w6.heap.size) := Kw6.out.1.size
  have c0 := (b0.out.below Kw6.out.2.2.2.1).c0
  have c1 := (b0.out.below Kw6.out.2.2.2.1).c1
  have c2 := (b0.out.below Kw6.out.2.2.2.1).c2
  go_wp2_with fail
  have HB0 : Hid (w6.heap.size ≤ w6.heap.size) := Kw6.out.1.size
  refine (toGame_at (H0.out.below Kw6.out.2.2.2.2.1) hn0).mono ?_
  rintro e w7 ⟨x, rfl, hu, hb⟩
  obtain ⟨xa0_0, xc0_0, xa0_1, xc0_1, xa0_2, xc0_2, hus⟩ := hu.shape
  subst hus
  have xX0 := Lib.hid hu
  have HE0 : Hid (w6.heap.size ≤ w7.heap.size) := hb.size
  have Kw7 : Hid (Keep [w6, w5, w4, w1, w] w7) := Kw6.out.step hb
  clear Kw6
  clear hu hb
  have Kaw7 : Hid (Keep [w7, w6, w5, w4, w1, w] w7) := Kw7.out.add
  clear Kw7
  clear c0 c1 c2
  obtain ⟨w8, hw8⟩ : ∃ y, y = w7.alloc (.cells #[.slice xa0_0 O0.length xc0_0, .slice xa0_1 z0.length xc0_1, .slice xa0_2 P0.length xc0_2] 43) := ⟨_, rfl⟩
  have Hw8 := Lib.hid hw8
  have hb : Below w7.heap.size w7 w8 := by rw [hw8]; exact below1 _ _
  have xb0 : Hid (Box3 w8 w7.heap.size 43 (.slice xa0_0 O0.length xc0_0) (.slice xa0_1 z0.length xc0_1) (.slice xa0_2 P0.length xc0_2)) := by rw [hw8]; exact Box3.new _ _ _ _ _ 
  have Kw8 : Hid (Keep [w7, w6, w5, w4, w1, w] w8) := Kaw7.out.step hb
  clear Kaw7
  clear hb
  have Kaw8 : Hid (Keep [w8, w7, w6, w5, w4, w1, w] w8) := Kw8.out.add
  clear Kw8
  have c0 := (b1.out.below Kaw8.out.2.2.2.2.2.1).cell0
  have c1 := (b1.out.below Kaw8.out.2.2.2.2.2.1).cell1
  rw [hw8] at c0 c1
  clear hw8
  go_wp2_with fail
  rw [← Hw8.out]
  have HB1 : Hid (w6.heap.size ≤ w8.heap.size) := Kaw8.out.2.2.1.size
  have HD0_1 : Hid (w7.heap.size ≤ w8.heap.size) := Kaw8.out.2.1.size
  refine (toAnswer_at (H1.out.below Kaw8.out.2.2.2.2.2.2.1)).mono ?_
  rintro e w9 ⟨x, rfl, hu, hb⟩
  obtain ⟨xa1_0, xc1_0, xa1_1, xc1_1, hus⟩ := hu.shape
  subst hus
  have xX1 := Lib.hid hu
  have HE1 : Hid (w8.heap.size ≤ w9.heap.size) := hb.size
  have Kw9 : Hid (Keep [w8, w7, w6, w5, w4, w1, w] w9) := Kaw8.out.step hb
  clear Kaw8
  clear hu hb
  have Kaw9 : Hid (Keep [w9, w8, w7, w6, w5, w4, w1, w] w9) := Kw9.out.add
  clear Kw9
  clear c0 c1
  obtain ⟨w10, hw10⟩ : ∃ y, y = w9.alloc (.cells #[.slice xa1_0 X1.length xc1_0, .slice xa1_1 Y1.length xc1_1] 27) := ⟨_, rfl⟩
  have Hw10 := Lib.hid hw10
  have hb : Below w9.heap.size w9 w10 := by rw [hw10]; exact below1 _ _
  have xb1 : Hid (Box2 w10 w9.heap.size 27 (.slice xa1_0 X1.length xc1_0) (.slice xa1_1 Y1.length xc1_1)) := by rw [hw10]; exact Box2.new _ _ _ _ 
  have Kw10 : Hid (Keep [w9, w8, w7, w6, w5, w4, w1, w] w10) := Kaw9.out.step hb
  clear Kaw9
  clear hb
  have Kaw10 : Hid (Keep [w10, w9, w8, w7, w6, w5, w4, w1, w] w10) := Kw10.out.add
  clear Kw10
  clear hw10
  have c0 := (xb0.out.below Kaw10.out.2.2.1).c0
  have c1 := (xb0.out.below Kaw10.out.2.2.1).c1
  have c2 := (xb0.out.below Kaw10.out.2.2.1).c2
  have c3 := (xb1.out.below Kaw10.out.1).cell0
  have c4 := (xb1.out.below Kaw10.out.1).cell1
  rw [Hw10.out] at c0 c1 c2 c3 c4
  go_wp2_with fail
  rw [← Hw10.out]
  have HD0 : Hid (w7.heap.size ≤ w10.heap.size) := Kaw10.out.2.2.2.1.size
  have HD1 : Hid (w9.heap.size ≤ w10.heap.size) := Kaw10.out.2.1.size
  refine (PartOf_is  R0.out (xX0.out.below Kaw10.out.2.2.2.1).at (xX1.out.below Kaw10.out.2.1).at).mono ?_
  rintro e w11 ⟨x, rfl, hg, hb⟩
  obtain ⟨xga_0, xgc_0, hus⟩ := hg.shape2
  subst hus
  have xG := Lib.hid hg
  have HEG : Hid (w10.heap.size ≤ w11.heap.size) := hb.size
  have Kw11 : Hid (Keep [w10, w9, w8, w7, w6, w5, w4, w1, w] w11) := Kaw10.out.step hb
  clear Kaw10
  clear hb hg
  have Kaw11 : Hid (Keep [w11, w10, w9, w8, w7, w6, w5, w4, w1, w] w11) := Kw11.out.add
  clear Kw11
  clear c0 c1 c2 c3 c4
  go_wp2_with fail
  refine (eqInts_at (xG.out.below Kaw11.out.1).v (pG.out.below Kaw11.out.2.2.2.2.2.1).v).mono ?_
  rintro e w12 ⟨rfl, hb⟩
  have Kw12 : Hid (Keep [w11, w10, w9, w8, w7, w6, w5, w4, w1, w] w12) := Kaw11.out.step hb
  clear Kaw11
  clear hb
  have c0 := (b0.out.below Kw12.out.2.2.2.2.2.2.2.2.1).c0
  have c1 := (b0.out.below Kw12.out.2.2.2.2.2.2.2.2.1).c1
  have c2 := (b0.out.below Kw12.out.2.2.2.2.2.2.2.2.1).c2
  have c3 := (xb0.out.below Kw12.out.2.2.2.1).c0
  have c4 := (xb0.out.below Kw12.out.2.2.2.1).c1
  have c5 := (xb0.out.below Kw12.out.2.2.2.1).c2
  have Kdw12 : Hid (Keep [w11, w10, w9, w8, w7, w6, w5, w4, w1, w] w12.drew) := Kw12.out.step (Below.refl _ _).drew
  go_wp2_with fail
  go_region_held3 (fun w' => w'.cell? ⟨w.heap.size, 0, none⟩ = some (.slice u0_0 O0.length d0_0) ∧ w'.cell? ⟨w.heap.size, 1, none⟩ = some (.slice u0_1 z0.length d0_1) ∧ w'.cell? ⟨w.heap.size, 2, none⟩ = some (.slice u0_2 P0.length d0_2) ∧ w'.cell? ⟨w7.heap.size, 0, none⟩ = some (.slice xa0_0 O0.length xc0_0) ∧ w'.cell? ⟨w7.heap.size, 1, none⟩ = some (.slice xa0_1 z0.length xc0_1) ∧ w'.cell? ⟨w7.heap.size, 2, none⟩ = some (.slice xa0_2 P0.length xc0_2))
    (first
      | go_keep
      | exact ⟨d0, d1, d2, d3, d4, d5⟩
      | exact ⟨f0, f1, f2, f3, f4, f5⟩)
    (first
      | (go_at_call 16; refine (toGame_at (H0.out.below Kdw12.out.2.2.2.2.2.2.2.2.2.1) hn0).mono ?_; rintro e w13 ⟨x, rfl, hu, hb⟩; obtain ⟨ya0_0, yc0_0, ya0_1, yc0_1, ya0_2, yc0_2, hus⟩ := hu.shape; subst hus; have yX0 := Lib.hid hu; have Kw13 : Hid (Keep [w11, w10, w9, w8, w7, w6, w5, w4, w1, w] w13) := Kdw12.out.step hb; have d0 := (b0.out.below Kw13.out.2.2.2.2.2.2.2.2.1).c0; have d1 := (b0.out.below Kw13.out.2.2.2.2.2.2.2.2.1).c1; have d2 := (b0.out.below Kw13.out.2.2.2.2.2.2.2.2.1).c2; have d3 := (xb0.out.below Kw13.out.2.2.2.1).c0; have d4 := (xb0.out.below Kw13.out.2.2.2.1).c1; have d5 := (xb0.out.below Kw13.out.2.2.2.1).c2; have Kaw13 : Hid (Keep [w13, w11, w10, w9, w8, w7, w6, w5, w4, w1, w] w13) := Kw13.out.add; clear hu hb)
      | (go_at_call 18; refine (eqGame_at (xX0.out.below Kaw13.out.2.2.2.2.2.1).at (yX0.out.below Kaw13.out.1).at).mono ?_; rintro e w14 ⟨rfl, hb⟩; have Kw14 : Hid (Keep [w13, w11, w10, w9, w8, w7, w6, w5, w4, w1, w] w14) := Kaw13.out.step hb; have f0 := (b0.out.below Kw14.out.2.2.2.2.2.2.2.2.2.1).c0; have f1 := (b0.out.below Kw14.out.2.2.2.2.2.2.2.2.2.1).c1; have f2 := (b0.out.below Kw14.out.2.2.2.2.2.2.2.2.2.1).c2; have f3 := (xb0.out.below Kw14.out.2.2.2.2.1).c0; have f4 := (xb0.out.below Kw14.out.2.2.2.2.1).c1; have f5 := (xb0.out.below Kw14.out.2.2.2.2.1).c2; clear hb))
  clear c0 d0 f0 c1 d1 f1 c2 d2 f2 c3 d3 f3 c4 d4 f4 c5 d5 f5
  have Kzw14 : Hid (Keep [w11, w10, w9, w8, w7, w6, w5, w4, w1, w] w14) := Kw14.out.2
  clear Kdw12 Kw13 Kaw13 yX0
  have c0 := (b1.out.below Kzw14.out.2.2.2.2.2.2.2.2.1).cell0
  have c1 := (b1.out.below Kzw14.out.2.2.2.2.2.2.2.2.1).cell1
  have c2 := (xb1.out.below Kzw14.out.2.1).cell0
  have c3 := (xb1.out.below Kzw14.out.2.1).cell1
  have Kdw14 : Hid (Keep [w11, w10, w9, w8, w7, w6, w5, w4, w1, w] w14.drew) := Kzw14.out.step (Below.refl _ _).drew
  go_wp2_with fail
  go_region_held3 (fun w' => w'.cell? ⟨w.heap.size + 1, 0, none⟩ = some (.slice u1_0 X1.length d1_0) ∧ w'.cell? ⟨w.heap.size + 1, 1, none⟩ = some (.slice u1_1 Y1.length d1_1) ∧ w'.cell? ⟨w9.heap.size, 0, none⟩ = some (.slice xa1_0 X1.length xc1_0) ∧ w'.cell? ⟨w9.heap.size, 1, none⟩ = some (.slice xa1_1 Y1.length xc1_1))
    (first
      | go_keep
      | exact ⟨d0, d1, d2, d3⟩
      | exact ⟨f0, f1, f2, f3⟩)
    (first
      | (go_at_call 7; refine (toAnswer_at (H1.out.below Kdw14.out.2.2.2.2.2.2.2.2.2.1)).mono ?_; rintro e w15 ⟨x, rfl, hu, hb⟩; obtain ⟨ya1_0, yc1_0, ya1_1, yc1_1, hus⟩ := hu.shape; subst hus; have yX1 := Lib.hid hu; have Kw15 : Hid (Keep [w11, w10, w9, w8, w7, w6, w5, w4, w1, w] w15) := Kdw14.out.step hb; have d0 := (b1.out.below Kw15.out.2.2.2.2.2.2.2.2.1).cell0; have d1 := (b1.out.below Kw15.out.2.2.2.2.2.2.2.2.1).cell1; have d2 := (xb1.out.below Kw15.out.2.1).cell0; have d3 := (xb1.out.below Kw15.out.2.1).cell1; have Kaw15 : Hid (Keep [w15, w11, w10, w9, w8, w7, w6, w5, w4, w1, w] w15) := Kw15.out.add; clear hu hb)
      | (go_at_call 10; refine (eqAnswer_at (xX1.out.below Kaw15.out.2.2.2.1).at (yX1.out.below Kaw15.out.1).at).mono ?_; rintro e w16 ⟨rfl, hb⟩; have Kw16 : Hid (Keep [w15, w11, w10, w9, w8, w7, w6, w5, w4, w1, w] w16) := Kaw15.out.step hb; have f0 := (b1.out.below Kw16.out.2.2.2.2.2.2.2.2.2.1).cell0; have f1 := (b1.out.below Kw16.out.2.2.2.2.2.2.2.2.2.1).cell1; have f2 := (xb1.out.below Kw16.out.2.2.1).cell0; have f3 := (xb1.out.below Kw16.out.2.2.1).cell1; clear hb))
  clear c0 d0 f0 c1 d1 f1 c2 d2 f2 c3 d3 f3
  have Kzw16 : Hid (Keep [w11, w10, w9, w8, w7, w6, w5, w4, w1, w] w16) := Kw16.out.2
  clear Kdw14 Kw15 Kaw15 yX1
  have xX0_w16 := Lib.hid (xX0.out.below Kzw16.out.2.2.2.2.1)
  have xX1_w16 := Lib.hid (xX1.out.below Kzw16.out.2.2.1)
  have xb0_w16 := Lib.hid (xb0.out.below Kzw16.out.2.2.2.1)
  have xb1_w16 := Lib.hid (xb1.out.below Kzw16.out.2.1)
  have xG_w16 := Lib.hid (xG.out.below Kzw16.out.1)
  have KBw16 : Hid (Keep [w6, w1, w] w16) := ⟨Kzw16.out.2.2.2.2.2.1, Kzw16.out.2.2.2.2.2.2.2.2.1, Kzw16.out.2.2.2.2.2.2.2.2.2.1, trivial⟩
  clear Kzw16
  have c0 := xb0_w16.out.c0
  have c1 := xb0_w16.out.c1
  have c2 := xb0_w16.out.c2
  go_wp2_with fail
  refine (markGame_at MK0.out xX0_w16.out (by omega) (by omega) HLE0.out).mono ?_
  rintro e t17 ⟨rfl, hx, ho⟩
  have o0 := OW.out
  have o1 := OC.out
  have o2 := OP.out
  have o3 := HEG.out
  have oh0 := HB0.out
  have oe0 := HE0.out
  have od0 := HD0.out
  have oh1 := HB1.out
  have oe1 := HE1.out
  have od1 := HD1.out
  have oq0_1 := HD0_1.out
  have KOt17 : Hid (Keep [w6, w1, w] t17) := KBw16.out.only ho (fun a ha b hb => by
    simp only [List.mem_cons, List.not_mem_nil, or_false] at ha
    rcases ha with rfl | rfl | rfl <;> omega)
  clear KBw16
  clear xX0_w16
  have xX1_t17 := Lib.hid (xX1_w16.out.only ho (fun g hg1 hg2 hb => by omega))
  clear xX1_w16
  clear xb0_w16
  have xb1_t17 := Lib.hid (xb1_w16.out.only ho (fun hb => by omega))
  clear xb1_w16
  have xG_t17 := Lib.hid (xG_w16.out.only ho (fun g hg hb => by have := (xG_w16.out.own.lt g hg).1; omega))
  clear xG_w16
  clear hx ho o0 o1 o2 o3 oh0 oe0 od0 oh1 oe1 od1 oq0_1 c0 c1 c2
  have c0 := xb1_t17.out.cell0
  have c1 := xb1_t17.out.cell1
  go_wp2_with fail
  refine (markAnswer_at MK1.out xX1_t17.out (by omega) (by omega) HLE1.out).mono ?_
  rintro e t18 ⟨rfl, hx, ho⟩
  have o0 := OW.out
  have o1 := OC.out
  have o2 := OP.out
  have o3 := HEG.out
  have oh0 := HB0.out
  have oe0 := HE0.out
  have od0 := HD0.out
  have oh1 := HB1.out
  have oe1 := HE1.out
  have od1 := HD1.out
  have oq0_1 := HD0_1.out
  have KOt18 : Hid (Keep [w6, w1, w] t18) := KOt17.out.only ho (fun a ha b hb => by
    simp only [List.mem_cons, List.not_mem_nil, or_false] at ha
    rcases ha with rfl | rfl | rfl <;> omega)
  clear KOt17
  clear xX1_t17
  clear xb1_t17
  have xG_t18 := Lib.hid (xG_t17.out.only ho (fun g hg hb => by have := (xG_t17.out.own.lt g hg).1; omega))
  clear xG_t17
  clear hx ho o0 o1 o2 o3 oh0 oe0 od0 oh1 oe1 od1 oq0_1 c0 c1
  go_wp2_with fail
  refine (eqInts_at xG_t18.out.v (pG.out.below KOt18.out.1).v).mono ?_
  rintro e t19 ⟨rfl, hb⟩
  have xG_t19 := Lib.hid (xG_t18.out.below hb)
  clear xG_t18
  have Kt19 : Hid (Keep [w6, w1, w] t19) := KOt18.out.step hb
  clear KOt18
  clear hb
  go_wp2_with fail
  refine (markInts_at MG.out xG_t19.out (by omega) (by omega)).mono ?_
  rintro e t20 ⟨rfl, hx, ho⟩
  have o0 := OW.out
  have o1 := OC.out
  have o2 := OP.out
  have o3 := HEG.out
  have oh0 := HB0.out
  have oe0 := HE0.out
  have od0 := HD0.out
  have oh1 := HB1.out
  have oe1 := HE1.out
  have od1 := HD1.out
  have oq0_1 := HD0_1.out
  have KOt20 : Hid (Keep [w6, w1, w] t20) := Kt19.out.only ho (fun a ha b hb => by
    simp only [List.mem_cons, List.not_mem_nil, or_false] at ha
    rcases ha with rfl | rfl | rfl <;> omega)
  clear Kt19
  have M := Lib.hid hx
  clear hx ho o0 o1 o2 o3 oh0 oe0 od0 oh1 oe1 od1 oq0_1
  have Kat20 : Hid (Keep [t20, w6, w1, w] t20) := KOt20.out.add
  clear KOt20
  go_wp2_with fail
  refine (heldInts_own MG.out (M.out.below Kat20.out.1).v (by omega) (by omega)).mono ?_
  rintro e t21 ⟨rfl, hb⟩
  have Kt21 : Hid (Keep [t20, w6, w1, w] t21) := Kat20.out.step hb
  clear Kat20
  clear hb
  have c0 := (b0.out.below Kt21.out.2.2.1).c0
  have c1 := (b0.out.below Kt21.out.2.2.1).c1
  have c2 := (b0.out.below Kt21.out.2.2.1).c2
  have c3 := (b1.out.below Kt21.out.2.2.1).cell0
  have c4 := (b1.out.below Kt21.out.2.2.1).cell1
  have tok0 : True := trivial
  have tok1 : True := trivial
  have Kdt21 : Hid (Keep [t20, w6, w1, w] t21.drew) := Kt21.out.step (Below.refl _ _).drew
  clear Kt21
  go_wp2_with fail
  go_region_held3 (fun w' => w'.cell? ⟨w.heap.size, 0, none⟩ = some (.slice u0_0 O0.length d0_0) ∧ w'.cell? ⟨w.heap.size, 1, none⟩ = some (.slice u0_1 z0.length d0_1) ∧ w'.cell? ⟨w.heap.size, 2, none⟩ = some (.slice u0_2 P0.length d0_2) ∧ w'.cell? ⟨w.heap.size + 1, 0, none⟩ = some (.slice u1_0 X1.length d1_0) ∧ w'.cell? ⟨w.heap.size + 1, 1, none⟩ = some (.slice u1_1 Y1.length d1_1))
    (first
      | go_keep
      | exact ⟨e0, e1, e2, e3, e4⟩
      | exact ⟨f0, f1, f2, f3, f4⟩
      | exact ⟨g0, g1, g2, g3, g4⟩)
    (first
      | (go_at_call 16; have _t := tok0; refine (toGame_at (H0.out.below Kdt21.out.2.2.2.1) hn0).mono ?_; rintro e w22 ⟨x, rfl, hu, hb⟩; obtain ⟨ha0_0, hc0_0, ha0_1, hc0_1, ha0_2, hc0_2, hus⟩ := hu.shape; subst hus; have hX0 := Lib.hid hu; have Kw22 : Hid (Keep [w22, t20, w6, w1, w] w22) := (Kdt21.out.step hb).add; have e0 := (b0.out.below Kw22.out.2.2.2.1).c0; have e1 := (b0.out.below Kw22.out.2.2.2.1).c1; have e2 := (b0.out.below Kw22.out.2.2.2.1).c2; have e3 := (b1.out.below Kw22.out.2.2.2.1).cell0; have e4 := (b1.out.below Kw22.out.2.2.2.1).cell1; clear hu hb tok0)
      | (go_at_call 7; have _t := tok1; refine (toAnswer_at (H1.out.below Kw22.out.2.2.2.2.1)).mono ?_; rintro e w23 ⟨x, rfl, hu, hb⟩; obtain ⟨ha1_0, hc1_0, ha1_1, hc1_1, hus⟩ := hu.shape; subst hus; have hX1 := Lib.hid hu; have Kw23 : Hid (Keep [w23, w22, t20, w6, w1, w] w23) := (Kw22.out.step hb).add; have f0 := (b0.out.below Kw23.out.2.2.2.2.1).c0; have f1 := (b0.out.below Kw23.out.2.2.2.2.1).c1; have f2 := (b0.out.below Kw23.out.2.2.2.2.1).c2; have f3 := (b1.out.below Kw23.out.2.2.2.2.1).cell0; have f4 := (b1.out.below Kw23.out.2.2.2.2.1).cell1; clear hu hb tok1)
      | (go_at_call 17; refine (PartOf_is  R0.out (hX0.out.below Kw23.out.2.1).at (hX1.out.below Kw23.out.1).at).mono ?_; rintro e w24 ⟨x, rfl, hg, hb⟩; obtain ⟨hga_0, hgc_0, hus⟩ := hg.shape2; subst hus; have hG := Lib.hid hg; have Kw24 : Hid (Keep [w24, w23, w22, t20, w6, w1, w] w24) := (Kw23.out.step hb).add; have g0 := (b0.out.below Kw24.out.2.2.2.2.2.1).c0; have g1 := (b0.out.below Kw24.out.2.2.2.2.2.1).c1; have g2 := (b0.out.below Kw24.out.2.2.2.2.2.1).c2; have g3 := (b1.out.below Kw24.out.2.2.2.2.2.1).cell0; have g4 := (b1.out.below Kw24.out.2.2.2.2.2.1).cell1; clear hb hg))
  clear c0 c1 c2 c3 c4 e0 e1 e2 e3 e4 f0 f1 f2 f3 f4 g0 g1 g2 g3 g4
  go_wp2_with fail
  refine (eqInts_at (hG.out.below Kw24.out.1).v (pG.out.below Kw24.out.2.2.2.2.1).v).mono ?_
  rintro e w25 ⟨rfl, hb⟩
  have Kw25 : Hid (Keep [w24, w23, w22, t20, w6, w1, w] w25) := Kw24.out.step hb
  clear Kw24
  clear hb
  go_wp2_with fail
  refine (heldInts_own MG.out (M.out.below Kw25.out.2.2.2.1).v (by omega) (by omega)).mono ?_
  rintro e t26 ⟨rfl, hb⟩
  have Kt26 : Hid (Keep [w24, w23, w22, t20, w6, w1, w] t26) := Kw25.out.step hb
  clear Kw25
  clear hb
  go_wp2
  go_ret
  exact ⟨rfl, Kt26.out.2.2.2.2.2.2.1⟩

end Go.Proofs.Ytokcinhopajniaa
