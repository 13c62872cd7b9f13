/-
  The walk of the law FnExactBetterIn.
-/
import Derived.Deep.RegionHeld3
import Derived.Test.YtihaajcmephlmaaPo00
import Derived.Test.YtihaajcmephlmaaPo09
import Derived.Test.YtihaajcmephlmaaKitWorth
import Derived.Test.YtihaajcmephlmaaBetterSpec2
import Derived.Test.YtihaajcmephlmaaBetterImpl
namespace Go.Proofs.Ytihaajcmephlmaa
open Go.RowKit

set_option maxHeartbeats 16000000 in
set_option maxRecDepth 100000 in
theorem lawBetterIn {w : World} {v0 : Value} {O0 : List Int} {z0 : List (List Int)} {P0 : List Int} {v1 : Value} {h1 : Int} {V1 : List Int} {y1 : Int} {v2 : Value} {h2 : Int} {V2 : List Int} {y2 : Int} (h0 : GameAt w v0 O0 z0 P0) (h1 : WorthAt w v1 h1 V1 y1) (h2 : WorthAt w v2 h2 V2 y2) :
    Calls Try.prog 7 #[v0, v1, v2] w fun e w' => e = .returned (.bool true) ∧ Below w.heap.size w w' := by
  have H0 := Lib.hid h0
  obtain ⟨u0_0, u0_1, u0_2, d0_0, d0_1, d0_2, A0, C0, rfl, q0, q1, q2⟩ := h0
  clear q0 q1 q2
  have H1 := Lib.hid h1
  obtain ⟨u1_1, d1_1, rfl, q0⟩ := h1
  clear q0
  have H2 := Lib.hid h2
  obtain ⟨u2_1, d2_1, rfl, q0⟩ := h2
  clear q0
  obtain ⟨w1, hw1⟩ : ∃ y, y = (((w.alloc (.cells #[.slice u0_0 O0.length d0_0, .slice u0_1 z0.length d0_1, .slice u0_2 P0.length d0_2] 42)).alloc (.cells #[.int .i64 h1, .slice u1_1 V1.length d1_1, .int .i64 y1] 56)).alloc (.cells #[.int .i64 h2, .slice u2_1 V2.length d2_1, .int .i64 y2] 56)) := ⟨_, rfl⟩
  have HW1 := Lib.hid hw1
  have B1 : Hid (Below w.heap.size w w1) := by rw [hw1]; exact (below2 _ _ _).alloc (by simp; omega) _
  have b0 : Hid (Box3 w1 (w.heap.size) 42 (.slice u0_0 O0.length d0_0) (.slice u0_1 z0.length d0_1) (.slice u0_2 P0.length d0_2)) := by rw [hw1]; exact ((Box3.new_at (by simp) _ _ _ _ ).alloc _).alloc _
  have b1 : Hid (Box3 w1 (w.heap.size + 1) 56 (.int .i64 h1) (.slice u1_1 V1.length d1_1) (.int .i64 y1)) := by rw [hw1]; exact (Box3.new_at (by simp) _ _ _ _ ).alloc _
  have b2 : Hid (Box3 w1 (w.heap.size + 1 + 1) 56 (.int .i64 h2) (.slice u2_1 V2.length d2_1) (.int .i64 y2)) := by rw [hw1]; exact Box3.new_at (by simp) _ _ _ _ 
  have K1 : Hid (Keep [w1, w] w1) := ⟨Below.refl _ _, B1.out, trivial⟩
  clear hw1
  by_cases hs0 : (1048576 : Int) < (sizeGame O0 z0 P0 : Int)
  · skip
    have HSn0 : Hid (∀ W, Below w.heap.size w W → Calls Try.prog 16 #[.agg #[.slice u0_0 O0.length d0_0, .slice u0_1 z0.length d0_1, .slice u0_2 P0.length d0_2], .int .i64 (1048576 : Int)] W fun e w' => e = .returned (.int .i64 (-1)) ∧ Below W.heap.size W w') := fun W hb => szGame_at (leftOf_no hs0) (H0.out.below hb) (by omega) (by omega)
    clear hs0
    go_enter Try.func7, Try.ntmps7
    go_wp2_with fail
    rw [← HW1.out]
    refine (HSn0.out _ K1.out.2.1).mono ?_
    rintro e w2 ⟨rfl, hb⟩
    have Kw2 : Hid (Keep [w1, w] w2) := K1.out.step hb
    clear K1
    clear hb
    go_wp2
    go_ret
    exact ⟨rfl, Kw2.out.2.1⟩
  have hle0 : (sizeGame O0 z0 P0 : Int) ≤ (1048576 : Int) := by omega
  obtain ⟨m0, hm0⟩ : ∃ m, leftOf (1048576 : Int) (sizeGame O0 z0 P0) = m := ⟨_, rfl⟩
  have hmv0 : m0 = (1048576 : Int) - (sizeGame O0 z0 P0 : Int) := by rw [← hm0]; exact leftOf_yes hle0
  have hml0 : 0 ≤ m0 := by omega
  have hmu0 : m0 ≤ 1048576 := by omega
  have HLE0 : Hid (sizeGame O0 z0 P0 ≤ 1048576) := by simp only [Hid]; omega
  have HS0 : Hid (∀ W, Below w.heap.size w W → Calls Try.prog 16 #[.agg #[.slice u0_0 O0.length d0_0, .slice u0_1 z0.length d0_1, .slice u0_2 P0.length d0_2], .int .i64 (1048576 : Int)] W fun e w' => e = .returned (.int .i64 m0) ∧ Below W.heap.size W w') := fun W hb => szGame_at hm0 (H0.out.below hb) (by omega) (by omega)
  have hn0 : z0.length ≤ 1048576 := by have := HLE0.out; unfold sizeGame at this; (try unfold sizeArena at this); omega
  clear hs0 hm0 hle0 hmv0
  by_cases hs1 : m0 < (sizeWorth h1 V1 y1 : Int)
  · skip
    have HSn1 : Hid (∀ W, Below w.heap.size w W → Calls Try.prog 30 #[.agg #[.int .i64 h1, .slice u1_1 V1.length d1_1, .int .i64 y1], .int .i64 m0] W fun e w' => e = .returned (.int .i64 (-1)) ∧ Below W.heap.size W w') := fun W hb => szWorth_at (leftOf_no hs1) (H1.out.below hb) (by omega) (by omega)
    clear hs1
    go_enter Try.func7, Try.ntmps7
    go_wp2_with fail
    rw [← HW1.out]
    refine (HS0.out _ K1.out.2.1).mono ?_
    rintro e w2 ⟨rfl, hb⟩
    have Kw2 : Hid (Keep [w1, w] w2) := K1.out.step hb
    clear K1
    clear hb
    have c0 := (b1.out.below Kw2.out.1).c0
    have c1 := (b1.out.below Kw2.out.1).c1
    have c2 := (b1.out.below Kw2.out.1).c2
    go_wp2_with fail
    refine (HSn1.out _ Kw2.out.2.1).mono ?_
    rintro e w3 ⟨rfl, hb⟩
    have Kw3 : Hid (Keep [w1, w] w3) := Kw2.out.step hb
    clear Kw2
    clear hb c0 c1 c2
    go_wp2
    go_ret
    exact ⟨rfl, Kw3.out.2.1⟩
  have hle1 : (sizeWorth h1 V1 y1 : Int) ≤ m0 := by omega
  obtain ⟨m1, hm1⟩ : ∃ m, leftOf m0 (sizeWorth h1 V1 y1) = m := ⟨_, rfl⟩
  have hmv1 : m1 = m0 - (sizeWorth h1 V1 y1 : Int) := by rw [← hm1]; exact leftOf_yes hle1
  have hml1 : 0 ≤ m1 := by omega
  have hmu1 : m1 ≤ 1048576 := by omega
  have HLE1 : Hid (sizeWorth h1 V1 y1 ≤ 1048576) := by simp only [Hid]; omega
  have HS1 : Hid (∀ W, Below w.heap.size w W → Calls Try.prog 30 #[.agg #[.int .i64 h1, .slice u1_1 V1.length d1_1, .int .i64 y1], .int .i64 m0] W fun e w' => e = .returned (.int .i64 m1) ∧ Below W.heap.size W w') := fun W hb => szWorth_at hm1 (H1.out.below hb) (by omega) (by omega)
  clear hs1 hm1 hle1 hmv1
  by_cases hs2 : m1 < (sizeWorth h2 V2 y2 : Int)
  · skip
    have HSn2 : Hid (∀ W, Below w.heap.size w W → Calls Try.prog 30 #[.agg #[.int .i64 h2, .slice u2_1 V2.length d2_1, .int .i64 y2], .int .i64 m1] W fun e w' => e = .returned (.int .i64 (-1)) ∧ Below W.heap.size W w') := fun W hb => szWorth_at (leftOf_no hs2) (H2.out.below hb) (by omega) (by omega)
    clear hs2
    go_enter Try.func7, Try.ntmps7
    go_wp2_with fail
    rw [← HW1.out]
    refine (HS0.out _ K1.out.2.1).mono ?_
    rintro e w2 ⟨rfl, hb⟩
    have Kw2 : Hid (Keep [w1, w] w2) := K1.out.step hb
    clear K1
    clear hb
    have c0 := (b1.out.below Kw2.out.1).c0
    have c1 := (b1.out.below Kw2.out.1).c1
    have c2 := (b1.out.below Kw2.out.1).c2
    go_wp2_with fail
    refine (HS1.out _ Kw2.out.2.1).mono ?_
    rintro e w3 ⟨rfl, hb⟩
    have Kw3 : Hid (Keep [w1, w] w3) := Kw2.out.step hb
    clear Kw2
    clear hb c0 c1 c2
    have c0 := (b2.out.below Kw3.out.1).c0
    have c1 := (b2.out.below Kw3.out.1).c1
    have c2 := (b2.out.below Kw3.out.1).c2
    go_wp2_with fail
    refine (HSn2.out _ Kw3.out.2.1).mono ?_
    rintro e w4 ⟨rfl, hb⟩
    have Kw4 : Hid (Keep [w1, w] w4) := Kw3.out.step hb
    clear Kw3
    clear hb c0 c1 c2
    go_wp2
    go_ret
    exact ⟨rfl, Kw4.out.2.1⟩
  have hle2 : (sizeWorth h2 V2 y2 : Int) ≤ m1 := by omega
  obtain ⟨m2, hm2⟩ : ∃ m, leftOf m1 (sizeWorth h2 V2 y2) = m := ⟨_, rfl⟩
  have hmv2 : m2 = m1 - (sizeWorth h2 V2 y2 : Int) := by rw [← hm2]; exact leftOf_yes hle2
  have hml2 : 0 ≤ m2 := by omega
  have hmu2 : m2 ≤ 1048576 := by omega
  have HLE2 : Hid (sizeWorth h2 V2 y2 ≤ 1048576) := by simp only [Hid]; omega
  have HS2 : Hid (∀ W, Below w.heap.size w W → Calls Try.prog 30 #[.agg #[.int .i64 h2, .slice u2_1 V2.length d2_1, .int .i64 y2], .int .i64 m1] W fun e w' => e = .returned (.int .i64 m2) ∧ Below W.heap.size W w') := fun W hb => szWorth_at hm2 (H2.out.below hb) (by omega) (by omega)
  clear hs2 hm2 hle2 hmv2
  obtain ⟨rb0, hrb0⟩ : ∃ r, betterInB O0 z0 P0 h1 V1 y1 h2 V2 y2 = r := ⟨_, rfl⟩
  have R0 := Lib.hid hrb0
  have hnerb0 : (rb0 != rb0) = false := by simp
  clear hrb0
  go_enter Try.func7, Try.ntmps7
  go_wp2_with fail
  rw [← HW1.out]
  refine (HS0.out _ K1.out.2.1).mono ?_
  rintro e w2 ⟨rfl, hb⟩
  have Kw2 : Hid (Keep [w1, w] w2) := K1.out.step hb
  clear K1
  clear hb
  have c0 := (b1.out.below Kw2.out.1).c0
  have c1 := (b1.out.below Kw2.out.1).c1
  have c2 := (b1.out.below Kw2.out.1).c2
  go_wp2_with fail
  refine (HS1.out _ Kw2.out.2.1).mono ?_
  rintro e w3 ⟨rfl, hb⟩
  have Kw3 : Hid (Keep [w1, w] w3) := Kw2.out.step hb
  clear Kw2
  clear hb c0 c1 c2
  have c0 := (b2.out.below Kw3.out.1).c0
  have c1 := (b2.out.below Kw3.out.1).c1
  have c2 := (b2.out.below Kw3.out.1).c2
  go_wp2_with fail
  refine (HS2.out _ Kw3.out.2.1).mono ?_
  rintro e w4 ⟨rfl, hb⟩
  have Kw4 : Hid (Keep [w1, w] w4) := Kw3.out.step hb
  clear Kw3
  clear hb c0 c1 c2
  have c0 := (b0.out.below Kw4.out.1).c0
  have c1 := (b0.out.below Kw4.out.1).c1
  have c2 := (b0.out.below Kw4.out.1).c2
  have c3 := (b1.out.below Kw4.out.1).c0
  have c4 := (b1.out.below Kw4.out.1).c1
  have c5 := (b1.out.below Kw4.out.1).c2
  have c6 := (b2.out.below Kw4.out.1).c0
  have c7 := (b2.out.below Kw4.out.1).c1
  have c8 := (b2.out.below Kw4.out.1).c2
  have tok0 : True := trivial
  have tok1 : True := trivial
  have tok2 : True := trivial
  have Kdw4 : Hid (Keep [w1, w] w4.drew) := Kw4.out.step (Below.refl _ _).drew
  clear Kw4
  go_wp2_with fail
  go_region_held3 (fun w' => w'.cell? ⟨w.heap.size, 0, none⟩ = some (.slice u0_0 O0.length d0_0) ∧ w'.cell? ⟨w.heap.size, 1, none⟩ = some (.slice u0_1 z0.length d0_1) ∧ w'.cell? ⟨w.heap.size, 2, none⟩ = some (.slice u0_2 P0.length d0_2) ∧ w'.cell? ⟨w.heap.size + 1, 0, none⟩ = some (.int .i64 h1) ∧ w'.cell? ⟨w.heap.size + 1, 1, none⟩ = some (.slice u1_1 V1.length d1_1) ∧ w'.cell? ⟨w.heap.size + 1, 2, none⟩ = some (.int .i64 y1) ∧ w'.cell? ⟨w.heap.size + 1 + 1, 0, none⟩ = some (.int .i64 h2) ∧ w'.cell? ⟨w.heap.size + 1 + 1, 1, none⟩ = some (.slice u2_1 V2.length d2_1) ∧ w'.cell? ⟨w.heap.size + 1 + 1, 2, none⟩ = some (.int .i64 y2))
    (first
      | go_keep
      | exact ⟨e0, e1, e2, e3, e4, e5, e6, e7, e8⟩
      | exact ⟨f0, f1, f2, f3, f4, f5, f6, f7, f8⟩
      | exact ⟨g0, g1, g2, g3, g4, g5, g6, g7, g8⟩
      | exact ⟨i0, i1, i2, i3, i4, i5, i6, i7, i8⟩)
    (first
      | (go_at_call 18; have _t := tok0; refine (toGame_at (H0.out.below Kdw4.out.2.1) hn0).mono ?_; rintro e w5 ⟨x, rfl, hu, hb⟩; obtain ⟨pa0_0, pc0_0, pa0_1, pc0_1, pa0_2, pc0_2, hus⟩ := hu.shape; subst hus; have pX0 := Lib.hid hu; have Kw5 : Hid (Keep [w5, w1, w] w5) := (Kdw4.out.step hb).add; have e0 := (b0.out.below Kw5.out.2.1).c0; have e1 := (b0.out.below Kw5.out.2.1).c1; have e2 := (b0.out.below Kw5.out.2.1).c2; have e3 := (b1.out.below Kw5.out.2.1).c0; have e4 := (b1.out.below Kw5.out.2.1).c1; have e5 := (b1.out.below Kw5.out.2.1).c2; have e6 := (b2.out.below Kw5.out.2.1).c0; have e7 := (b2.out.below Kw5.out.2.1).c1; have e8 := (b2.out.below Kw5.out.2.1).c2; clear hu hb tok0)
      | (go_at_call 32; have _t := tok1; refine (toWorth_own (H1.out.below Kw5.out.2.2.1)).mono ?_; rintro e w6 ⟨x, rfl, hu, hb⟩; obtain ⟨pa1_1, pc1_1, hus⟩ := hu.shape; subst hus; have pX1 := Lib.hid hu; have Kw6 : Hid (Keep [w6, w5, w1, w] w6) := (Kw5.out.step hb).add; have f0 := (b0.out.below Kw6.out.2.2.1).c0; have f1 := (b0.out.below Kw6.out.2.2.1).c1; have f2 := (b0.out.below Kw6.out.2.2.1).c2; have f3 := (b1.out.below Kw6.out.2.2.1).c0; have f4 := (b1.out.below Kw6.out.2.2.1).c1; have f5 := (b1.out.below Kw6.out.2.2.1).c2; have f6 := (b2.out.below Kw6.out.2.2.1).c0; have f7 := (b2.out.below Kw6.out.2.2.1).c1; have f8 := (b2.out.below Kw6.out.2.2.1).c2; clear hu hb tok1)
      | (go_at_call 32; have _t := tok2; refine (toWorth_own (H2.out.below Kw6.out.2.2.2.1)).mono ?_; rintro e w7 ⟨x, rfl, hu, hb⟩; obtain ⟨pa2_1, pc2_1, hus⟩ := hu.shape; subst hus; have pX2 := Lib.hid hu; have Kw7 : Hid (Keep [w7, w6, w5, w1, w] w7) := (Kw6.out.step hb).add; have g0 := (b0.out.below Kw7.out.2.2.2.1).c0; have g1 := (b0.out.below Kw7.out.2.2.2.1).c1; have g2 := (b0.out.below Kw7.out.2.2.2.1).c2; have g3 := (b1.out.below Kw7.out.2.2.2.1).c0; have g4 := (b1.out.below Kw7.out.2.2.2.1).c1; have g5 := (b1.out.below Kw7.out.2.2.2.1).c2; have g6 := (b2.out.below Kw7.out.2.2.2.1).c0; have g7 := (b2.out.below Kw7.out.2.2.2.1).c1; have g8 := (b2.out.below Kw7.out.2.2.2.1).c2; clear hu hb tok2)
      | (go_at_call 34; refine (specBetterIn_is  R0.out (pX0.out.below Kw7.out.2.2.1).at (pX1.out.below Kw7.out.2.1).at (pX2.out.below Kw7.out.1).at).mono ?_; rintro e w8 ⟨rfl, hb⟩; have Kw8 : Hid (Keep [w7, w6, w5, w1, w] w8) := Kw7.out.step hb; have i0 := (b0.out.below Kw8.out.2.2.2.1).c0; have i1 := (b0.out.below Kw8.out.2.2.2.1).c1; have i2 := (b0.out.below Kw8.out.2.2.2.1).c2; have i3 := (b1.out.below Kw8.out.2.2.2.1).c0; have i4 := (b1.out.below Kw8.out.2.2.2.1).c1; have i5 := (b1.out.below Kw8.out.2.2.2.1).c2; have i6 := (b2.out.below Kw8.out.2.2.2.1).c0; have i7 := (b2.out.below Kw8.out.2.2.2.1).c1; have i8 := (b2.out.below Kw8.out.2.2.2.1).c2; clear hb))
  clear c0 c1 c2 c3 c4 c5 c6 c7 c8 e0 e1 e2 e3 e4 e5 e6 e7 e8 f0 f1 f2 f3 f4 f5 f6 f7 f8 g0 g1 g2 g3 g4 g5 g6 g7 g8 i0 i1 i2 i3 i4 i5 i6 i7 i8
  have Kaw8 : Hid (Keep [w8, w7, w6, w5, w1, w] w8) := Kw8.out.add
  clear Kw8
  have c0 := (b0.out.below Kaw8.out.2.2.2.2.1).c0
  have c1 := (b0.out.below Kaw8.out.2.2.2.2.1).c1
  have c2 := (b0.out.below Kaw8.out.2.2.2.2.1).c2
  go_wp2_with fail
  refine (toGame_at (H0.out.below Kaw8.out.2.2.2.2.2.1) hn0).mono ?_
  rintro e w9 ⟨x, rfl, hu, hb⟩
  obtain ⟨xa0_0, xc0_0, xa0_1, xc0_1, xa0_2, xc0_2, hus⟩ := hu.shape
  subst hus
  have xX0 := Lib.hid hu
  have HE0 : Hid (w8.heap.size ≤ w9.heap.size) := hb.size
  have Kw9 : Hid (Keep [w8, w7, w6, w5, w1, w] w9) := Kaw8.out.step hb
  clear Kaw8
  clear hu hb
  have Kaw9 : Hid (Keep [w9, w8, w7, w6, w5, w1, w] w9) := Kw9.out.add
  clear Kw9
  clear c0 c1 c2
  obtain ⟨w10, hw10⟩ : ∃ y, y = w9.alloc (.cells #[.slice xa0_0 O0.length xc0_0, .slice xa0_1 z0.length xc0_1, .slice xa0_2 P0.length xc0_2] 32) := ⟨_, rfl⟩
  have Hw10 := Lib.hid hw10
  have hb : Below w9.heap.size w9 w10 := by rw [hw10]; exact below1 _ _
  have xb0 : Hid (Box3 w10 w9.heap.size 32 (.slice xa0_0 O0.length xc0_0) (.slice xa0_1 z0.length xc0_1) (.slice xa0_2 P0.length xc0_2)) := by rw [hw10]; exact Box3.new _ _ _ _ _ 
  have Kw10 : Hid (Keep [w9, w8, w7, w6, w5, w1, w] w10) := Kaw9.out.step hb
  clear Kaw9
  clear hb
  have Kaw10 : Hid (Keep [w10, w9, w8, w7, w6, w5, w1, w] w10) := Kw10.out.add
  clear Kw10
  have c0 := (b1.out.below Kaw10.out.2.2.2.2.2.2.1).c0
  have c1 := (b1.out.below Kaw10.out.2.2.2.2.2.2.1).c1
  have c2 := (b1.out.below Kaw10.out.2.2.2.2.2.2.1).c2
  rw [hw10] at c0 c1 c2
  clear hw10
  go_wp2_with fail
  rw [← Hw10.out]
  refine (toWorth_own (H1.out.below Kaw10.out.2.2.2.2.2.2.2.1)).mono ?_
  rintro e w11 ⟨x, rfl, hu, hb⟩
  obtain ⟨xa1_1, xc1_1, hus⟩ := hu.shape
  subst hus
  have xX1 := Lib.hid hu
  have HE1 : Hid (w10.heap.size ≤ w11.heap.size) := hb.size
  have Kw11 : Hid (Keep [w10, w9, w8, w7, w6, w5, w1, w] w11) := Kaw10.out.step hb
  clear Kaw10
  clear hu hb
  have Kaw11 : Hid (Keep [w11, w10, w9, w8, w7, w6, w5, w1, w] w11) := Kw11.out.add
  clear Kw11
  clear c0 c1 c2
  obtain ⟨w12, hw12⟩ : ∃ y, y = w11.alloc (.cells #[.int .i64 h1, .slice xa1_1 V1.length xc1_1, .int .i64 y1] 35) := ⟨_, rfl⟩
  have Hw12 := Lib.hid hw12
  have hb : Below w11.heap.size w11 w12 := by rw [hw12]; exact below1 _ _
  have xb1 : Hid (Box3 w12 w11.heap.size 35 (.int .i64 h1) (.slice xa1_1 V1.length xc1_1) (.int .i64 y1)) := by rw [hw12]; exact Box3.new _ _ _ _ _ 
  have Kw12 : Hid (Keep [w11, w10, w9, w8, w7, w6, w5, w1, w] w12) := Kaw11.out.step hb
  clear Kaw11
  clear hb
  have Kaw12 : Hid (Keep [w12, w11, w10, w9, w8, w7, w6, w5, w1, w] w12) := Kw12.out.add
  clear Kw12
  have c0 := (b2.out.below Kaw12.out.2.2.2.2.2.2.2.2.1).c0
  have c1 := (b2.out.below Kaw12.out.2.2.2.2.2.2.2.2.1).c1
  have c2 := (b2.out.below Kaw12.out.2.2.2.2.2.2.2.2.1).c2
  rw [hw12] at c0 c1 c2
  clear hw12
  go_wp2_with fail
  rw [← Hw12.out]
  refine (toWorth_own (H2.out.below Kaw12.out.2.2.2.2.2.2.2.2.2.1)).mono ?_
  rintro e w13 ⟨x, rfl, hu, hb⟩
  obtain ⟨xa2_1, xc2_1, hus⟩ := hu.shape
  subst hus
  have xX2 := Lib.hid hu
  have HE2 : Hid (w12.heap.size ≤ w13.heap.size) := hb.size
  have Kw13 : Hid (Keep [w12, w11, w10, w9, w8, w7, w6, w5, w1, w] w13) := Kaw12.out.step hb
  clear Kaw12
  clear hu hb
  have Kaw13 : Hid (Keep [w13, w12, w11, w10, w9, w8, w7, w6, w5, w1, w] w13) := Kw13.out.add
  clear Kw13
  clear c0 c1 c2
  obtain ⟨w14, hw14⟩ : ∃ y, y = w13.alloc (.cells #[.int .i64 h2, .slice xa2_1 V2.length xc2_1, .int .i64 y2] 35) := ⟨_, rfl⟩
  have Hw14 := Lib.hid hw14
  have hb : Below w13.heap.size w13 w14 := by rw [hw14]; exact below1 _ _
  have xb2 : Hid (Box3 w14 w13.heap.size 35 (.int .i64 h2) (.slice xa2_1 V2.length xc2_1) (.int .i64 y2)) := by rw [hw14]; exact Box3.new _ _ _ _ _ 
  have Kw14 : Hid (Keep [w13, w12, w11, w10, w9, w8, w7, w6, w5, w1, w] w14) := Kaw13.out.step hb
  clear Kaw13
  clear hb
  have Kaw14 : Hid (Keep [w14, w13, w12, w11, w10, w9, w8, w7, w6, w5, w1, w] w14) := Kw14.out.add
  clear Kw14
  clear hw14
  have c0 := (xb0.out.below Kaw14.out.2.2.2.2.1).c0
  have c1 := (xb0.out.below Kaw14.out.2.2.2.2.1).c1
  have c2 := (xb0.out.below Kaw14.out.2.2.2.2.1).c2
  have c3 := (xb1.out.below Kaw14.out.2.2.1).c0
  have c4 := (xb1.out.below Kaw14.out.2.2.1).c1
  have c5 := (xb1.out.below Kaw14.out.2.2.1).c2
  have c6 := (xb2.out.below Kaw14.out.1).c0
  have c7 := (xb2.out.below Kaw14.out.1).c1
  have c8 := (xb2.out.below Kaw14.out.1).c2
  rw [Hw14.out] at c0 c1 c2 c3 c4 c5 c6 c7 c8
  go_wp2_with fail
  rw [← Hw14.out]
  refine (BetterIn_is  R0.out (xX0.out.below Kaw14.out.2.2.2.2.2.1).at (xX1.out.below Kaw14.out.2.2.2.1).at (xX2.out.below Kaw14.out.2.1).at).mono ?_
  rintro e w15 ⟨rfl, hb⟩
  have Kw15 : Hid (Keep [w14, w13, w12, w11, w10, w9, w8, w7, w6, w5, w1, w] w15) := Kaw14.out.step hb
  clear Kaw14
  clear hb
  clear c0 c1 c2 c3 c4 c5 c6 c7 c8
  have c0 := (b0.out.below Kw15.out.2.2.2.2.2.2.2.2.2.2.1).c0
  have c1 := (b0.out.below Kw15.out.2.2.2.2.2.2.2.2.2.2.1).c1
  have c2 := (b0.out.below Kw15.out.2.2.2.2.2.2.2.2.2.2.1).c2
  have c3 := (xb0.out.below Kw15.out.2.2.2.2.1).c0
  have c4 := (xb0.out.below Kw15.out.2.2.2.2.1).c1
  have c5 := (xb0.out.below Kw15.out.2.2.2.2.1).c2
  have Kdw15 : Hid (Keep [w14, w13, w12, w11, w10, w9, w8, w7, w6, w5, w1, w] w15.drew) := Kw15.out.step (Below.refl _ _).drew
  go_wp2_with fail
  go_region_held3 (fun w' => w'.cell? ⟨w.heap.size, 0, none⟩ = some (.slice u0_0 O0.length d0_0) ∧ w'.cell? ⟨w.heap.size, 1, none⟩ = some (.slice u0_1 z0.length d0_1) ∧ w'.cell? ⟨w.heap.size, 2, none⟩ = some (.slice u0_2 P0.length d0_2) ∧ w'.cell? ⟨w9.heap.size, 0, none⟩ = some (.slice xa0_0 O0.length xc0_0) ∧ w'.cell? ⟨w9.heap.size, 1, none⟩ = some (.slice xa0_1 z0.length xc0_1) ∧ w'.cell? ⟨w9.heap.size, 2, none⟩ = some (.slice xa0_2 P0.length xc0_2))
    (first
      | go_keep
      | exact ⟨d0, d1, d2, d3, d4, d5⟩
      | exact ⟨f0, f1, f2, f3, f4, f5⟩)
    (first
      | (go_at_call 18; refine (toGame_at (H0.out.below Kdw15.out.2.2.2.2.2.2.2.2.2.2.2.1) hn0).mono ?_; rintro e w16 ⟨x, rfl, hu, hb⟩; obtain ⟨ya0_0, yc0_0, ya0_1, yc0_1, ya0_2, yc0_2, hus⟩ := hu.shape; subst hus; have yX0 := Lib.hid hu; have Kw16 : Hid (Keep [w14, w13, w12, w11, w10, w9, w8, w7, w6, w5, w1, w] w16) := Kdw15.out.step hb; have d0 := (b0.out.below Kw16.out.2.2.2.2.2.2.2.2.2.2.1).c0; have d1 := (b0.out.below Kw16.out.2.2.2.2.2.2.2.2.2.2.1).c1; have d2 := (b0.out.below Kw16.out.2.2.2.2.2.2.2.2.2.2.1).c2; have d3 := (xb0.out.below Kw16.out.2.2.2.2.1).c0; have d4 := (xb0.out.below Kw16.out.2.2.2.2.1).c1; have d5 := (xb0.out.below Kw16.out.2.2.2.2.1).c2; have Kaw16 : Hid (Keep [w16, w14, w13, w12, w11, w10, w9, w8, w7, w6, w5, w1, w] w16) := Kw16.out.add; clear hu hb)
      | (go_at_call 20; refine (eqGame_at (xX0.out.below Kaw16.out.2.2.2.2.2.2.1).at (yX0.out.below Kaw16.out.1).at).mono ?_; rintro e w17 ⟨rfl, hb⟩; have Kw17 : Hid (Keep [w16, w14, w13, w12, w11, w10, w9, w8, w7, w6, w5, w1, w] w17) := Kaw16.out.step hb; have f0 := (b0.out.below Kw17.out.2.2.2.2.2.2.2.2.2.2.2.1).c0; have f1 := (b0.out.below Kw17.out.2.2.2.2.2.2.2.2.2.2.2.1).c1; have f2 := (b0.out.below Kw17.out.2.2.2.2.2.2.2.2.2.2.2.1).c2; have f3 := (xb0.out.below Kw17.out.2.2.2.2.2.1).c0; have f4 := (xb0.out.below Kw17.out.2.2.2.2.2.1).c1; have f5 := (xb0.out.below Kw17.out.2.2.2.2.2.1).c2; clear hb))
  clear c0 d0 f0 c1 d1 f1 c2 d2 f2 c3 d3 f3 c4 d4 f4 c5 d5 f5
  have Kzw17 : Hid (Keep [w14, w13, w12, w11, w10, w9, w8, w7, w6, w5, w1, w] w17) := Kw17.out.2
  clear Kdw15 Kw16 Kaw16 yX0
  have c0 := (b1.out.below Kzw17.out.2.2.2.2.2.2.2.2.2.2.1).c0
  have c1 := (b1.out.below Kzw17.out.2.2.2.2.2.2.2.2.2.2.1).c1
  have c2 := (b1.out.below Kzw17.out.2.2.2.2.2.2.2.2.2.2.1).c2
  have c3 := (xb1.out.below Kzw17.out.2.2.1).c0
  have c4 := (xb1.out.below Kzw17.out.2.2.1).c1
  have c5 := (xb1.out.below Kzw17.out.2.2.1).c2
  have Kdw17 : Hid (Keep [w14, w13, w12, w11, w10, w9, w8, w7, w6, w5, w1, w] w17.drew) := Kzw17.out.step (Below.refl _ _).drew
  go_wp2_with fail
  go_region_held3 (fun w' => w'.cell? ⟨w.heap.size + 1, 0, none⟩ = some (.int .i64 h1) ∧ w'.cell? ⟨w.heap.size + 1, 1, none⟩ = some (.slice u1_1 V1.length d1_1) ∧ w'.cell? ⟨w.heap.size + 1, 2, none⟩ = some (.int .i64 y1) ∧ w'.cell? ⟨w11.heap.size, 0, none⟩ = some (.int .i64 h1) ∧ w'.cell? ⟨w11.heap.size, 1, none⟩ = some (.slice xa1_1 V1.length xc1_1) ∧ w'.cell? ⟨w11.heap.size, 2, none⟩ = some (.int .i64 y1))
    (first
      | go_keep
      | exact ⟨d0, d1, d2, d3, d4, d5⟩
      | exact ⟨f0, f1, f2, f3, f4, f5⟩)
    (first
      | (go_at_call 32; refine (toWorth_own (H1.out.below Kdw17.out.2.2.2.2.2.2.2.2.2.2.2.1)).mono ?_; rintro e w18 ⟨x, rfl, hu, hb⟩; obtain ⟨ya1_1, yc1_1, hus⟩ := hu.shape; subst hus; have yX1 := Lib.hid hu; have Kw18 : Hid (Keep [w14, w13, w12, w11, w10, w9, w8, w7, w6, w5, w1, w] w18) := Kdw17.out.step hb; have d0 := (b1.out.below Kw18.out.2.2.2.2.2.2.2.2.2.2.1).c0; have d1 := (b1.out.below Kw18.out.2.2.2.2.2.2.2.2.2.2.1).c1; have d2 := (b1.out.below Kw18.out.2.2.2.2.2.2.2.2.2.2.1).c2; have d3 := (xb1.out.below Kw18.out.2.2.1).c0; have d4 := (xb1.out.below Kw18.out.2.2.1).c1; have d5 := (xb1.out.below Kw18.out.2.2.1).c2; have Kaw18 : Hid (Keep [w18, w14, w13, w12, w11, w10, w9, w8, w7, w6, w5, w1, w] w18) := Kw18.out.add; clear hu hb)
      | (go_at_call 24; refine (eqWorth_at (xX1.out.below Kaw18.out.2.2.2.2.1).at (yX1.out.below Kaw18.out.1).at).mono ?_; rintro e w19 ⟨rfl, hb⟩; have Kw19 : Hid (Keep [w18, w14, w13, w12, w11, w10, w9, w8, w7, w6, w5, w1, w] w19) := Kaw18.out.step hb; have f0 := (b1.out.below Kw19.out.2.2.2.2.2.2.2.2.2.2.2.1).c0; have f1 := (b1.out.below Kw19.out.2.2.2.2.2.2.2.2.2.2.2.1).c1; have f2 := (b1.out.below Kw19.out.2.2.2.2.2.2.2.2.2.2.2.1).c2; have f3 := (xb1.out.below Kw19.out.2.2.2.1).c0; have f4 := (xb1.out.below Kw19.out.2.2.2.1).c1; have f5 := (xb1.out.below Kw19.out.2.2.2.1).c2; clear hb))
  clear c0 d0 f0 c1 d1 f1 c2 d2 f2 c3 d3 f3 c4 d4 f4 c5 d5 f5
  have Kzw19 : Hid (Keep [w14, w13, w12, w11, w10, w9, w8, w7, w6, w5, w1, w] w19) := Kw19.out.2
  clear Kdw17 Kw18 Kaw18 yX1
  have c0 := (b2.out.below Kzw19.out.2.2.2.2.2.2.2.2.2.2.1).c0
  have c1 := (b2.out.below Kzw19.out.2.2.2.2.2.2.2.2.2.2.1).c1
  have c2 := (b2.out.below Kzw19.out.2.2.2.2.2.2.2.2.2.2.1).c2
  have c3 := (xb2.out.below Kzw19.out.1).c0
  have c4 := (xb2.out.below Kzw19.out.1).c1
  have c5 := (xb2.out.below Kzw19.out.1).c2
  have Kdw19 : Hid (Keep [w14, w13, w12, w11, w10, w9, w8, w7, w6, w5, w1, w] w19.drew) := Kzw19.out.step (Below.refl _ _).drew
  go_wp2_with fail
  go_region_held3 (fun w' => w'.cell? ⟨w.heap.size + 1 + 1, 0, none⟩ = some (.int .i64 h2) ∧ w'.cell? ⟨w.heap.size + 1 + 1, 1, none⟩ = some (.slice u2_1 V2.length d2_1) ∧ w'.cell? ⟨w.heap.size + 1 + 1, 2, none⟩ = some (.int .i64 y2) ∧ w'.cell? ⟨w13.heap.size, 0, none⟩ = some (.int .i64 h2) ∧ w'.cell? ⟨w13.heap.size, 1, none⟩ = some (.slice xa2_1 V2.length xc2_1) ∧ w'.cell? ⟨w13.heap.size, 2, none⟩ = some (.int .i64 y2))
    (first
      | go_keep
      | exact ⟨d0, d1, d2, d3, d4, d5⟩
      | exact ⟨f0, f1, f2, f3, f4, f5⟩)
    (first
      | (go_at_call 32; refine (toWorth_own (H2.out.below Kdw19.out.2.2.2.2.2.2.2.2.2.2.2.1)).mono ?_; rintro e w20 ⟨x, rfl, hu, hb⟩; obtain ⟨ya2_1, yc2_1, hus⟩ := hu.shape; subst hus; have yX2 := Lib.hid hu; have Kw20 : Hid (Keep [w14, w13, w12, w11, w10, w9, w8, w7, w6, w5, w1, w] w20) := Kdw19.out.step hb; have d0 := (b2.out.below Kw20.out.2.2.2.2.2.2.2.2.2.2.1).c0; have d1 := (b2.out.below Kw20.out.2.2.2.2.2.2.2.2.2.2.1).c1; have d2 := (b2.out.below Kw20.out.2.2.2.2.2.2.2.2.2.2.1).c2; have d3 := (xb2.out.below Kw20.out.1).c0; have d4 := (xb2.out.below Kw20.out.1).c1; have d5 := (xb2.out.below Kw20.out.1).c2; have Kaw20 : Hid (Keep [w20, w14, w13, w12, w11, w10, w9, w8, w7, w6, w5, w1, w] w20) := Kw20.out.add; clear hu hb)
      | (go_at_call 24; refine (eqWorth_at (xX2.out.below Kaw20.out.2.2.1).at (yX2.out.below Kaw20.out.1).at).mono ?_; rintro e w21 ⟨rfl, hb⟩; have Kw21 : Hid (Keep [w20, w14, w13, w12, w11, w10, w9, w8, w7, w6, w5, w1, w] w21) := Kaw20.out.step hb; have f0 := (b2.out.below Kw21.out.2.2.2.2.2.2.2.2.2.2.2.1).c0; have f1 := (b2.out.below Kw21.out.2.2.2.2.2.2.2.2.2.2.2.1).c1; have f2 := (b2.out.below Kw21.out.2.2.2.2.2.2.2.2.2.2.2.1).c2; have f3 := (xb2.out.below Kw21.out.2.1).c0; have f4 := (xb2.out.below Kw21.out.2.1).c1; have f5 := (xb2.out.below Kw21.out.2.1).c2; clear hb))
  clear c0 d0 f0 c1 d1 f1 c2 d2 f2 c3 d3 f3 c4 d4 f4 c5 d5 f5
  have Kzw21 : Hid (Keep [w14, w13, w12, w11, w10, w9, w8, w7, w6, w5, w1, w] w21) := Kw21.out.2
  clear Kdw19 Kw20 Kaw20 yX2
  go_wp2
  go_ret
  exact ⟨rfl, Kzw21.out.2.2.2.2.2.2.2.2.2.2.2.1⟩

end Go.Proofs.Ytihaajcmephlmaa
