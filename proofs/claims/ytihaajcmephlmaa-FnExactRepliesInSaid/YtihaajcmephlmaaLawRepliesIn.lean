/-
  The walk of the law FnExactRepliesIn.
-/
import Derived.Deep.RegionHeld3
import Derived.Test.YtihaajcmephlmaaPo00
import Derived.Test.YtihaajcmephlmaaPo09
import Derived.Test.YtihaajcmephlmaaReplySpec
import Derived.Test.YtihaajcmephlmaaReplyImpl
namespace Go.Proofs.Ytihaajcmephlmaa
open Go.RowKit

set_option maxHeartbeats 16000000 in
set_option maxRecDepth 100000 in
theorem lawRepliesIn {w : World} {v0 : Value} {O0 : List Int} {z0 : List (List Int)} {P0 : List Int} (h0 : GameAt w v0 O0 z0 P0) :
    Calls Try.prog 8 #[v0] w fun e w' => e = .returned (.bool true) ∧ Below w.heap.size w w' := by
  have H0 := Lib.hid h0
  obtain ⟨u0_0, u0_1, u0_2, d0_0, d0_1, d0_2, A0, C0, rfl, q0, q1, q2⟩ := h0
  clear q0 q1 q2
  obtain ⟨w1, hw1⟩ : ∃ y, y = (w.alloc (.cells #[.slice u0_0 O0.length d0_0, .slice u0_1 z0.length d0_1, .slice u0_2 P0.length d0_2] 42)) := ⟨_, rfl⟩
  have HW1 := Lib.hid hw1
  have B1 : Hid (Below w.heap.size w w1) := by rw [hw1]; exact below1 _ _
  have b0 : Hid (Box3 w1 (w.heap.size) 42 (.slice u0_0 O0.length d0_0) (.slice u0_1 z0.length d0_1) (.slice u0_2 P0.length d0_2)) := by rw [hw1]; exact Box3.new_at (by simp) _ _ _ _ 
  have K1 : Hid (Keep [w1, w] w1) := ⟨Below.refl _ _, B1.out, trivial⟩
  clear hw1
  by_cases hs0 : (1048576 : Int) < (sizeGame O0 z0 P0 : Int)
  · skip
    have HSn0 : Hid (∀ W, Below w.heap.size w W → Calls Try.prog 16 #[.agg #[.slice u0_0 O0.length d0_0, .slice u0_1 z0.length d0_1, .slice u0_2 P0.length d0_2], .int .i64 (1048576 : Int)] W fun e w' => e = .returned (.int .i64 (-1)) ∧ Below W.heap.size W w') := fun W hb => szGame_at (leftOf_no hs0) (H0.out.below hb) (by omega) (by omega)
    clear hs0
    go_enter Try.func8, Try.ntmps8
    go_wp2_with fail
    rw [← HW1.out]
    refine (HSn0.out _ K1.out.2.1).mono ?_
    rintro e w2 ⟨rfl, hb⟩
    have Kw2 : Hid (Keep [w1, w] w2) := K1.out.step hb
    clear K1
    clear hb
    go_wp2
    go_ret
    exact ⟨rfl, Kw2.out.2.1⟩
  have hle0 : (sizeGame O0 z0 P0 : Int) ≤ (1048576 : Int) := by omega
  obtain ⟨m0, hm0⟩ : ∃ m, leftOf (1048576 : Int) (sizeGame O0 z0 P0) = m := ⟨_, rfl⟩
  have hmv0 : m0 = (1048576 : Int) - (sizeGame O0 z0 P0 : Int) := by rw [← hm0]; exact leftOf_yes hle0
  have hml0 : 0 ≤ m0 := by omega
  have hmu0 : m0 ≤ 1048576 := by omega
  have HLE0 : Hid (sizeGame O0 z0 P0 ≤ 1048576) := by simp only [Hid]; omega
  have HS0 : Hid (∀ W, Below w.heap.size w W → Calls Try.prog 16 #[.agg #[.slice u0_0 O0.length d0_0, .slice u0_1 z0.length d0_1, .slice u0_2 P0.length d0_2], .int .i64 (1048576 : Int)] W fun e w' => e = .returned (.int .i64 m0) ∧ Below W.heap.size W w') := fun W hb => szGame_at hm0 (H0.out.below hb) (by omega) (by omega)
  have hn0 : z0.length ≤ 1048576 := by have := HLE0.out; unfold sizeGame at this; (try unfold sizeArena at this); omega
  clear hs0 hm0 hle0 hmv0
  obtain ⟨rn0, hrn0⟩ : ∃ r, repliesV O0 z0 P0 = r := ⟨_, rfl⟩
  have R0 := Lib.hid hrn0
  have hnern0 : (rn0 != rn0) = false := by simp
  clear hrn0
  go_enter Try.func8, Try.ntmps8
  go_wp2_with fail
  rw [← HW1.out]
  refine (HS0.out _ K1.out.2.1).mono ?_
  rintro e w2 ⟨rfl, hb⟩
  have Kw2 : Hid (Keep [w1, w] w2) := K1.out.step hb
  clear K1
  clear hb
  have c0 := (b0.out.below Kw2.out.1).c0
  have c1 := (b0.out.below Kw2.out.1).c1
  have c2 := (b0.out.below Kw2.out.1).c2
  go_wp2_with fail
  refine (toGame_at (H0.out.below Kw2.out.2.1) hn0).mono ?_
  rintro e w3 ⟨x, rfl, hu, hb⟩
  obtain ⟨pa0_0, pc0_0, pa0_1, pc0_1, pa0_2, pc0_2, hus⟩ := hu.shape
  subst hus
  have pX0 := Lib.hid hu
  have Kw3 : Hid (Keep [w1, w] w3) := Kw2.out.step hb
  clear Kw2
  clear hu hb
  have Kaw3 : Hid (Keep [w3, w1, w] w3) := Kw3.out.add
  clear Kw3
  clear c0 c1 c2
  go_wp2_with fail
  refine (specRepliesIn_is  R0.out (pX0.out.below Kaw3.out.1).at).mono ?_
  rintro e w4 ⟨rfl, hb⟩
  have Kw4 : Hid (Keep [w3, w1, w] w4) := Kaw3.out.step hb
  clear Kaw3
  clear hb
  have Kaw4 : Hid (Keep [w4, w3, w1, w] w4) := Kw4.out.add
  clear Kw4
  have c0 := (b0.out.below Kaw4.out.2.2.1).c0
  have c1 := (b0.out.below Kaw4.out.2.2.1).c1
  have c2 := (b0.out.below Kaw4.out.2.2.1).c2
  go_wp2_with fail
  refine (toGame_at (H0.out.below Kaw4.out.2.2.2.1) hn0).mono ?_
  rintro e w5 ⟨x, rfl, hu, hb⟩
  obtain ⟨xa0_0, xc0_0, xa0_1, xc0_1, xa0_2, xc0_2, hus⟩ := hu.shape
  subst hus
  have xX0 := Lib.hid hu
  have HE0 : Hid (w4.heap.size ≤ w5.heap.size) := hb.size
  have Kw5 : Hid (Keep [w4, w3, w1, w] w5) := Kaw4.out.step hb
  clear Kaw4
  clear hu hb
  have Kaw5 : Hid (Keep [w5, w4, w3, w1, w] w5) := Kw5.out.add
  clear Kw5
  clear c0 c1 c2
  obtain ⟨w6, hw6⟩ : ∃ y, y = w5.alloc (.cells #[.slice xa0_0 O0.length xc0_0, .slice xa0_1 z0.length xc0_1, .slice xa0_2 P0.length xc0_2] 32) := ⟨_, rfl⟩
  have Hw6 := Lib.hid hw6
  have hb : Below w5.heap.size w5 w6 := by rw [hw6]; exact below1 _ _
  have xb0 : Hid (Box3 w6 w5.heap.size 32 (.slice xa0_0 O0.length xc0_0) (.slice xa0_1 z0.length xc0_1) (.slice xa0_2 P0.length xc0_2)) := by rw [hw6]; exact Box3.new _ _ _ _ _ 
  have Kw6 : Hid (Keep [w5, w4, w3, w1, w] w6) := Kaw5.out.step hb
  clear Kaw5
  clear hb
  have Kaw6 : Hid (Keep [w6, w5, w4, w3, w1, w] w6) := Kw6.out.add
  clear Kw6
  clear hw6
  have c0 := (xb0.out.below Kaw6.out.1).c0
  have c1 := (xb0.out.below Kaw6.out.1).c1
  have c2 := (xb0.out.below Kaw6.out.1).c2
  rw [Hw6.out] at c0 c1 c2
  go_wp2_with fail
  rw [← Hw6.out]
  refine (RepliesIn_is  R0.out (xX0.out.below Kaw6.out.2.1).at).mono ?_
  rintro e w7 ⟨rfl, hb⟩
  have Kw7 : Hid (Keep [w6, w5, w4, w3, w1, w] w7) := Kaw6.out.step hb
  clear Kaw6
  clear hb
  clear c0 c1 c2
  have c0 := (b0.out.below Kw7.out.2.2.2.2.1).c0
  have c1 := (b0.out.below Kw7.out.2.2.2.2.1).c1
  have c2 := (b0.out.below Kw7.out.2.2.2.2.1).c2
  have c3 := (xb0.out.below Kw7.out.1).c0
  have c4 := (xb0.out.below Kw7.out.1).c1
  have c5 := (xb0.out.below Kw7.out.1).c2
  have Kdw7 : Hid (Keep [w6, w5, w4, w3, w1, w] w7.drew) := Kw7.out.step (Below.refl _ _).drew
  go_wp2_with fail
  go_region_held3 (fun w' => w'.cell? ⟨w.heap.size, 0, none⟩ = some (.slice u0_0 O0.length d0_0) ∧ w'.cell? ⟨w.heap.size, 1, none⟩ = some (.slice u0_1 z0.length d0_1) ∧ w'.cell? ⟨w.heap.size, 2, none⟩ = some (.slice u0_2 P0.length d0_2) ∧ w'.cell? ⟨w5.heap.size, 0, none⟩ = some (.slice xa0_0 O0.length xc0_0) ∧ w'.cell? ⟨w5.heap.size, 1, none⟩ = some (.slice xa0_1 z0.length xc0_1) ∧ w'.cell? ⟨w5.heap.size, 2, none⟩ = some (.slice xa0_2 P0.length xc0_2))
    (first
      | go_keep
      | exact ⟨d0, d1, d2, d3, d4, d5⟩
      | exact ⟨f0, f1, f2, f3, f4, f5⟩)
    (first
      | (go_at_call 18; refine (toGame_at (H0.out.below Kdw7.out.2.2.2.2.2.1) hn0).mono ?_; rintro e w8 ⟨x, rfl, hu, hb⟩; obtain ⟨ya0_0, yc0_0, ya0_1, yc0_1, ya0_2, yc0_2, hus⟩ := hu.shape; subst hus; have yX0 := Lib.hid hu; have Kw8 : Hid (Keep [w6, w5, w4, w3, w1, w] w8) := Kdw7.out.step hb; have d0 := (b0.out.below Kw8.out.2.2.2.2.1).c0; have d1 := (b0.out.below Kw8.out.2.2.2.2.1).c1; have d2 := (b0.out.below Kw8.out.2.2.2.2.1).c2; have d3 := (xb0.out.below Kw8.out.1).c0; have d4 := (xb0.out.below Kw8.out.1).c1; have d5 := (xb0.out.below Kw8.out.1).c2; have Kaw8 : Hid (Keep [w8, w6, w5, w4, w3, w1, w] w8) := Kw8.out.add; clear hu hb)
      | (go_at_call 20; refine (eqGame_at (xX0.out.below Kaw8.out.2.2.1).at (yX0.out.below Kaw8.out.1).at).mono ?_; rintro e w9 ⟨rfl, hb⟩; have Kw9 : Hid (Keep [w8, w6, w5, w4, w3, w1, w] w9) := Kaw8.out.step hb; have f0 := (b0.out.below Kw9.out.2.2.2.2.2.1).c0; have f1 := (b0.out.below Kw9.out.2.2.2.2.2.1).c1; have f2 := (b0.out.below Kw9.out.2.2.2.2.2.1).c2; have f3 := (xb0.out.below Kw9.out.2.1).c0; have f4 := (xb0.out.below Kw9.out.2.1).c1; have f5 := (xb0.out.below Kw9.out.2.1).c2; clear hb))
  clear c0 d0 f0 c1 d1 f1 c2 d2 f2 c3 d3 f3 c4 d4 f4 c5 d5 f5
  have Kzw9 : Hid (Keep [w6, w5, w4, w3, w1, w] w9) := Kw9.out.2
  clear Kdw7 Kw8 Kaw8 yX0
  go_wp2
  go_ret
  exact ⟨rfl, Kzw9.out.2.2.2.2.2.1⟩

end Go.Proofs.Ytihaajcmephlmaa
