/-
  The walk of the law FnExactFullIn.
-/
import Derived.Test.YtaagbnogbhegdaaKitGame
import Derived.Test.YtaagbnogbhegdaaWalks1
import Derived.Test.YtaagbnogbhegdaaPlanSpec
import Derived.Test.YtaagbnogbhegdaaPlanImpl
import Derived.Deep.RegionHeld3
namespace Go.Proofs.Ytaagbnogbhegdaa
open Go.RowKit

set_option maxHeartbeats 16000000 in
set_option maxRecDepth 100000 in
theorem lawFullIn {w : World} {v0 : Value} {O0 : List Int} {z0 : List (List Int)} {n1 : Int} {aS2 : Option Addr} {S2 : List Int} {cs2 : Nat} (h0 : ArenaAt w v0 O0 z0) (h2 : IntsAt w aS2 S2) :
    Calls Try.prog 8 #[v0, .int .i64 n1, .slice aS2 S2.length cs2] w fun e w' => e = .returned (.bool true) ∧ Below w.heap.size w w' := by
  have H0 := Lib.hid h0
  obtain ⟨u0_0, u0_1, d0_0, d0_1, A0, C0, rfl, q0, q1⟩ := h0
  clear q0 q1
  have H2 : Hid (IntsV w (.slice aS2 S2.length cs2) S2) := ⟨_, _, rfl, h2⟩
  have hl2 := h2.len
  clear h2
  obtain ⟨w1, hw1⟩ : ∃ y, y = (w.alloc (.cells #[.slice u0_0 O0.length d0_0, .slice u0_1 z0.length d0_1] 51)) := ⟨_, rfl⟩
  have HW1 := Lib.hid hw1
  have B1 : Hid (Below w.heap.size w w1) := by rw [hw1]; exact below1 _ _
  have b0 : Hid (Box2 w1 (w.heap.size) 51 (.slice u0_0 O0.length d0_0) (.slice u0_1 z0.length d0_1)) := by rw [hw1]; exact Box2.new_at (by simp) _ _ _ 
  have K1 : Hid (Keep [w1, w] w1) := ⟨Below.refl _ _, B1.out, trivial⟩
  clear hw1
  by_cases hbig2 : (1048576 : Int) < S2.length
  · go_enter Try.func8, Try.ntmps8
    go_wp2
    go_ret
    exact ⟨rfl, by rw [← HW1.out]; exact B1.out⟩
  have hsm2 : (S2.length : Int) ≤ 1048576 := by omega
  have hsmN2 : S2.length ≤ 1048576 := by omega
  clear hbig2
  by_cases hs0 : (1048576 : Int) < (sizeArena O0 z0 : Int)
  · skip
    have HSn0 : Hid (∀ W, Below w.heap.size w W → Calls Try.prog 35 #[.agg #[.slice u0_0 O0.length d0_0, .slice u0_1 z0.length d0_1], .int .i64 (1048576 : Int)] W fun e w' => e = .returned (.int .i64 (-1)) ∧ Below W.heap.size W w') := fun W hb => szArena_at (leftOf_no hs0) (H0.out.below hb) (by omega) (by omega)
    clear hs0
    go_enter Try.func8, Try.ntmps8
    go_wp2_with fail
    rw [← HW1.out]
    refine (HSn0.out _ K1.out.2.1).mono ?_
    rintro e w2 ⟨rfl, hb⟩
    have Kw2 : Hid (Keep [w1, w] w2) := K1.out.step hb
    clear K1
    clear hb
    go_wp2
    go_ret
    exact ⟨rfl, Kw2.out.2.1⟩
  have hle0 : (sizeArena O0 z0 : Int) ≤ (1048576 : Int) := by omega
  obtain ⟨m0, hm0⟩ : ∃ m, leftOf (1048576 : Int) (sizeArena O0 z0) = m := ⟨_, rfl⟩
  have hmv0 : m0 = (1048576 : Int) - (sizeArena O0 z0 : Int) := by rw [← hm0]; exact leftOf_yes hle0
  have hml0 : 0 ≤ m0 := by omega
  have hmu0 : m0 ≤ 1048576 := by omega
  have HLE0 : Hid (sizeArena O0 z0 ≤ 1048576) := by simp only [Hid]; omega
  have HS0 : Hid (∀ W, Below w.heap.size w W → Calls Try.prog 35 #[.agg #[.slice u0_0 O0.length d0_0, .slice u0_1 z0.length d0_1], .int .i64 (1048576 : Int)] W fun e w' => e = .returned (.int .i64 m0) ∧ Below W.heap.size W w') := fun W hb => szArena_at hm0 (H0.out.below hb) (by omega) (by omega)
  have hn0 : z0.length ≤ 1048576 := by have := HLE0.out; unfold sizeArena at this; (try unfold sizeArena at this); omega
  clear hs0 hm0 hle0 hmv0
  obtain ⟨rb0, hrb0⟩ : ∃ r, fullB O0 z0 n1 S2 = r := ⟨_, rfl⟩
  have R0 := Lib.hid hrb0
  have hnerb0 : (rb0 != rb0) = false := by simp
  clear hrb0
  go_enter Try.func8, Try.ntmps8
  go_wp2_with fail
  rw [← HW1.out]
  refine (HS0.out _ K1.out.2.1).mono ?_
  rintro e w2 ⟨rfl, hb⟩
  have Kw2 : Hid (Keep [w1, w] w2) := K1.out.step hb
  clear K1
  clear hb
  have c0 := (b0.out.below Kw2.out.1).cell0
  have c1 := (b0.out.below Kw2.out.1).cell1
  go_wp2_with fail
  refine (toArena_own (H0.out.below Kw2.out.2.1) hn0).mono ?_
  rintro e w3 ⟨x, rfl, hu, hb⟩
  obtain ⟨pa0_0, pc0_0, pa0_1, pc0_1, hus⟩ := hu.shape2
  subst hus
  have pX0 := Lib.hid hu
  have Kw3 : Hid (Keep [w1, w] w3) := Kw2.out.step hb
  clear Kw2
  clear hu hb
  have Kaw3 : Hid (Keep [w3, w1, w] w3) := Kw3.out.add
  clear Kw3
  clear c0 c1
  go_wp2_with fail
  refine (toInts_own (H2.out.below Kaw3.out.2.2.1)).mono ?_
  rintro e w4 ⟨x, rfl, hu, hb⟩
  obtain ⟨pa2_0, pc2_0, hus⟩ := hu.shape2
  subst hus
  have pX2 := Lib.hid hu
  have Kw4 : Hid (Keep [w3, w1, w] w4) := Kaw3.out.step hb
  clear Kaw3
  clear hu hb
  have Kaw4 : Hid (Keep [w4, w3, w1, w] w4) := Kw4.out.add
  clear Kw4
  go_wp2_with fail
  refine (specFullIn_is pc2_0 R0.out (pX0.out.below Kaw4.out.2.1).at (pX2.out.below Kaw4.out.1).v.at).mono ?_
  rintro e w5 ⟨rfl, hb⟩
  have Kw5 : Hid (Keep [w4, w3, w1, w] w5) := Kaw4.out.step hb
  clear Kaw4
  clear hb
  have Kaw5 : Hid (Keep [w5, w4, w3, w1, w] w5) := Kw5.out.add
  clear Kw5
  have c0 := (b0.out.below Kaw5.out.2.2.2.1).cell0
  have c1 := (b0.out.below Kaw5.out.2.2.2.1).cell1
  go_wp2_with fail
  refine (toArena_own (H0.out.below Kaw5.out.2.2.2.2.1) hn0).mono ?_
  rintro e w6 ⟨x, rfl, hu, hb⟩
  obtain ⟨xa0_0, xc0_0, xa0_1, xc0_1, hus⟩ := hu.shape2
  subst hus
  have xX0 := Lib.hid hu
  have HE0 : Hid (w5.heap.size ≤ w6.heap.size) := hb.size
  have Kw6 : Hid (Keep [w5, w4, w3, w1, w] w6) := Kaw5.out.step hb
  clear Kaw5
  clear hu hb
  have Kaw6 : Hid (Keep [w6, w5, w4, w3, w1, w] w6) := Kw6.out.add
  clear Kw6
  clear c0 c1
  obtain ⟨w7, hw7⟩ : ∃ y, y = w6.alloc (.cells #[.slice xa0_0 O0.length xc0_0, .slice xa0_1 z0.length xc0_1] 27) := ⟨_, rfl⟩
  have Hw7 := Lib.hid hw7
  have hb : Below w6.heap.size w6 w7 := by rw [hw7]; exact below1 _ _
  have xb0 : Hid (Box2 w7 w6.heap.size 27 (.slice xa0_0 O0.length xc0_0) (.slice xa0_1 z0.length xc0_1)) := by rw [hw7]; exact Box2.new _ _ _ _ 
  have Kw7 : Hid (Keep [w6, w5, w4, w3, w1, w] w7) := Kaw6.out.step hb
  clear Kaw6
  clear hb
  have Kaw7 : Hid (Keep [w7, w6, w5, w4, w3, w1, w] w7) := Kw7.out.add
  clear Kw7
  clear hw7
  go_wp2_with fail
  rw [← Hw7.out]
  refine (toInts_own (H2.out.below Kaw7.out.2.2.2.2.2.2.1)).mono ?_
  rintro e w8 ⟨x, rfl, hu, hb⟩
  obtain ⟨xa2_0, xc2_0, hus⟩ := hu.shape2
  subst hus
  have xX2 := Lib.hid hu
  have HE2 : Hid (w7.heap.size ≤ w8.heap.size) := hb.size
  have Kw8 : Hid (Keep [w7, w6, w5, w4, w3, w1, w] w8) := Kaw7.out.step hb
  clear Kaw7
  clear hu hb
  have Kaw8 : Hid (Keep [w8, w7, w6, w5, w4, w3, w1, w] w8) := Kw8.out.add
  clear Kw8
  have c0 := (xb0.out.below Kaw8.out.2.1).cell0
  have c1 := (xb0.out.below Kaw8.out.2.1).cell1
  go_wp2_with fail
  refine (FullIn_is xc2_0 R0.out (xX0.out.below Kaw8.out.2.2.1).at (xX2.out.below Kaw8.out.1).v.at).mono ?_
  rintro e w9 ⟨rfl, hb⟩
  have Kw9 : Hid (Keep [w8, w7, w6, w5, w4, w3, w1, w] w9) := Kaw8.out.step hb
  clear Kaw8
  clear hb
  clear c0 c1
  have c0 := (b0.out.below Kw9.out.2.2.2.2.2.2.1).cell0
  have c1 := (b0.out.below Kw9.out.2.2.2.2.2.2.1).cell1
  have c2 := (xb0.out.below Kw9.out.2.1).cell0
  have c3 := (xb0.out.below Kw9.out.2.1).cell1
  have Kdw9 : Hid (Keep [w8, w7, w6, w5, w4, w3, w1, w] w9.drew) := Kw9.out.step (Below.refl _ _).drew
  go_wp2_with fail
  go_region_held3 (fun w' => w'.cell? ⟨w.heap.size, 0, none⟩ = some (.slice u0_0 O0.length d0_0) ∧ w'.cell? ⟨w.heap.size, 1, none⟩ = some (.slice u0_1 z0.length d0_1) ∧ w'.cell? ⟨w6.heap.size, 0, none⟩ = some (.slice xa0_0 O0.length xc0_0) ∧ w'.cell? ⟨w6.heap.size, 1, none⟩ = some (.slice xa0_1 z0.length xc0_1))
    (first
      | go_keep
      | exact ⟨d0, d1, d2, d3⟩
      | exact ⟨f0, f1, f2, f3⟩)
    (first
      | (go_at_call 37; refine (toArena_own (H0.out.below Kdw9.out.2.2.2.2.2.2.2.1) hn0).mono ?_; rintro e w10 ⟨x, rfl, hu, hb⟩; obtain ⟨ya0_0, yc0_0, ya0_1, yc0_1, hus⟩ := hu.shape2; subst hus; have yX0 := Lib.hid hu; have Kw10 : Hid (Keep [w8, w7, w6, w5, w4, w3, w1, w] w10) := Kdw9.out.step hb; have d0 := (b0.out.below Kw10.out.2.2.2.2.2.2.1).cell0; have d1 := (b0.out.below Kw10.out.2.2.2.2.2.2.1).cell1; have d2 := (xb0.out.below Kw10.out.2.1).cell0; have d3 := (xb0.out.below Kw10.out.2.1).cell1; have Kaw10 : Hid (Keep [w10, w8, w7, w6, w5, w4, w3, w1, w] w10) := Kw10.out.add; clear hu hb)
      | (go_at_call 39; refine (eqArena_at (xX0.out.below Kaw10.out.2.2.2.1).at (yX0.out.below Kaw10.out.1).at).mono ?_; rintro e w11 ⟨rfl, hb⟩; have Kw11 : Hid (Keep [w10, w8, w7, w6, w5, w4, w3, w1, w] w11) := Kaw10.out.step hb; have f0 := (b0.out.below Kw11.out.2.2.2.2.2.2.2.1).cell0; have f1 := (b0.out.below Kw11.out.2.2.2.2.2.2.2.1).cell1; have f2 := (xb0.out.below Kw11.out.2.2.1).cell0; have f3 := (xb0.out.below Kw11.out.2.2.1).cell1; clear hb))
  clear c0 d0 f0 c1 d1 f1 c2 d2 f2 c3 d3 f3
  have Kzw11 : Hid (Keep [w8, w7, w6, w5, w4, w3, w1, w] w11) := Kw11.out.2
  clear Kdw9 Kw10 Kaw10 yX0
  go_wp2_with fail
  refine (toInts_own (H2.out.below Kzw11.out.2.2.2.2.2.2.2.1)).mono ?_
  rintro e w12 ⟨x, rfl, hu, hb⟩
  obtain ⟨y11a2_0, y11c2_0, hus⟩ := hu.shape2
  subst hus
  have y11X2 := Lib.hid hu
  have Kw12 : Hid (Keep [w8, w7, w6, w5, w4, w3, w1, w] w12) := Kzw11.out.step hb
  clear Kzw11
  clear hu hb
  have Kaw12 : Hid (Keep [w12, w8, w7, w6, w5, w4, w3, w1, w] w12) := Kw12.out.add
  clear Kw12
  go_wp2_with fail
  refine (eqInts_at (xX2.out.below Kaw12.out.2.1).v (y11X2.out.below Kaw12.out.1).v).mono ?_
  rintro e w13 ⟨rfl, hb⟩
  have Kw13 : Hid (Keep [w12, w8, w7, w6, w5, w4, w3, w1, w] w13) := Kaw12.out.step hb
  clear Kaw12
  clear hb
  go_wp2
  go_ret
  exact ⟨rfl, Kw13.out.2.2.2.2.2.2.2.2.1⟩

end Go.Proofs.Ytaagbnogbhegdaa
