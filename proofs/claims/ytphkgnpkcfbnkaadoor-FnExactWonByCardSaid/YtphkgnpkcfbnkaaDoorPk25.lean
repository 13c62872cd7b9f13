/-
  The walk of the law FnExactWonBy.
-/
import Derived.Deep.RegionHeld3
import Derived.Test.YtphkgnpkcfbnkaaDoorPk03
import Derived.Test.YtphkgnpkcfbnkaaDoorPk05
import Derived.Test.YtphkgnpkcfbnkaaDoorPk22
import Derived.Test.YtphkgnpkcfbnkaaDoorPk23
namespace Go.Proofs.YtphkgnpkcfbnkaaDoor
open Go.RowKit

set_option maxHeartbeats 16000000 in
set_option maxRecDepth 100000 in
theorem lawWonBy {w : World} {v0 : Value} {O0 : List Int} {z0 : List (List Int)} {P0 : List Int} {n1 : Int} (h0 : GameAt w v0 O0 z0 P0) (hE : TabW w) :
    Calls Tryd.prog 10 #[v0, .int .i64 n1] w fun e w' => e = .returned (.bool true) ∧ Below w.heap.size w w' := by
  have HE := Lib.hid hE
  clear hE
  have H0 := Lib.hid h0
  obtain ⟨u0_0, u0_1, u0_2, d0_0, d0_1, d0_2, A0, C0, rfl, q0, q1, q2⟩ := h0
  clear q0 q1 q2
  obtain ⟨w1, hw1⟩ : ∃ y, y = (w.alloc (.cells #[.slice u0_0 O0.length d0_0, .slice u0_1 z0.length d0_1, .slice u0_2 P0.length d0_2] 62)) := ⟨_, rfl⟩
  have HW1 := Lib.hid hw1
  have B1 : Hid (Below w.heap.size w w1) := by rw [hw1]; exact below1 _ _
  have b0 : Hid (Box3 w1 (w.heap.size) 62 (.slice u0_0 O0.length d0_0) (.slice u0_1 z0.length d0_1) (.slice u0_2 P0.length d0_2)) := by rw [hw1]; exact Box3.new_at (by simp) _ _ _ _ 
  have K1 : Hid (Keep [w1, w] w1) := ⟨Below.refl _ _, B1.out, trivial⟩
  clear hw1
  by_cases hs0 : (1048576 : Int) < (sizeGame O0 z0 P0 : Int)
  · skip
    have HSn0 : Hid (∀ W, Below w.heap.size w W → Calls Tryd.prog 42 #[.agg #[.slice u0_0 O0.length d0_0, .slice u0_1 z0.length d0_1, .slice u0_2 P0.length d0_2], .int .i64 (1048576 : Int)] W fun e w' => e = .returned (.int .i64 (-1)) ∧ Below W.heap.size W w') := fun W hb => szGame_at (leftOf_no hs0) (H0.out.below hb) (by omega) (by omega)
    clear hs0
    go_enter Tryd.func10, Tryd.ntmps10
    go_wp2_with fail
    rw [← HW1.out]
    refine (HSn0.out _ K1.out.2.1).mono ?_
    rintro e w2 ⟨rfl, hb⟩
    have Kw2 : Hid (Keep [w1, w] w2) := K1.out.step hb
    clear K1
    clear hb
    go_wp2
    go_ret
    exact ⟨rfl, Kw2.out.2.1⟩
  have hle0 : (sizeGame O0 z0 P0 : Int) ≤ (1048576 : Int) := by omega
  obtain ⟨m0, hm0⟩ : ∃ m, leftOf (1048576 : Int) (sizeGame O0 z0 P0) = m := ⟨_, rfl⟩
  have hmv0 : m0 = (1048576 : Int) - (sizeGame O0 z0 P0 : Int) := by rw [← hm0]; exact leftOf_yes hle0
  have hml0 : 0 ≤ m0 := by omega
  have hmu0 : m0 ≤ 1048576 := by omega
  have HLE0 : Hid (sizeGame O0 z0 P0 ≤ 1048576) := by simp only [Hid]; omega
  have HS0 : Hid (∀ W, Below w.heap.size w W → Calls Tryd.prog 42 #[.agg #[.slice u0_0 O0.length d0_0, .slice u0_1 z0.length d0_1, .slice u0_2 P0.length d0_2], .int .i64 (1048576 : Int)] W fun e w' => e = .returned (.int .i64 m0) ∧ Below W.heap.size W w') := fun W hb => szGame_at hm0 (H0.out.below hb) (by omega) (by omega)
  have hn0 : z0.length ≤ 1048576 := by have := HLE0.out; unfold sizeGame at this; (try unfold sizeArena at this); omega
  clear hs0 hm0 hle0 hmv0
  obtain ⟨rS, hrS⟩ : ∃ r, wonByL O0 z0 P0 n1 = r := ⟨_, rfl⟩
  have R0 := Lib.hid hrS
  clear hrS
  obtain ⟨mk0, hmk0⟩ : ∃ r : Int, (1 : Int) + (O0.length : Int) + (sumLen z0 z0.length : Int) + (P0.length : Int) = r := ⟨_, rfl⟩
  have MK0 := Lib.hid hmk0
  have hmkl0 : 0 ≤ mk0 := by omega
  have hmku0 : mk0 ≤ 1048577 := by have := HLE0.out; unfold sizeGame at this; (try unfold sizeArena at this); omega
  obtain ⟨mg, hmg⟩ : ∃ r : Int, (1 : Int) + (rS.length : Int) = r := ⟨_, rfl⟩
  have MG := Lib.hid hmg
  have hmg0 : 0 ≤ mg := by omega
  have hmgn : (mg != mg) = false := by simp
  clear hmg hmk0
  go_enter Tryd.func10, Tryd.ntmps10
  go_wp2_with fail
  rw [← HW1.out]
  refine (HS0.out _ K1.out.2.1).mono ?_
  rintro e w2 ⟨rfl, hb⟩
  have Kw2 : Hid (Keep [w1, w] w2) := K1.out.step hb
  clear K1
  clear hb
  have c0 := (b0.out.below Kw2.out.1).c0
  have c1 := (b0.out.below Kw2.out.1).c1
  have c2 := (b0.out.below Kw2.out.1).c2
  go_wp2_with fail
  refine (toGame_at (H0.out.below Kw2.out.2.1) hn0).mono ?_
  rintro e w3 ⟨x, rfl, hu, hb⟩
  obtain ⟨pa0_0, pc0_0, pa0_1, pc0_1, pa0_2, pc0_2, hus⟩ := hu.shape
  subst hus
  have pX0 := Lib.hid hu
  have Kw3 : Hid (Keep [w1, w] w3) := Kw2.out.step hb
  clear Kw2
  clear hu hb
  have Kaw3 : Hid (Keep [w3, w1, w] w3) := Kw3.out.add
  clear Kw3
  clear c0 c1 c2
  go_wp2_with fail
  refine (specWonBy_is  R0.out (pX0.out.below Kaw3.out.1).at).mono ?_
  rintro e w4 ⟨x, rfl, hg, hb⟩
  obtain ⟨pga_0, pgc_0, hus⟩ := hg.shape2
  subst hus
  have pG := Lib.hid hg
  have Kw4 : Hid (Keep [w3, w1, w] w4) := Kaw3.out.step hb
  clear Kaw3
  clear hb hg
  have Kaw4 : Hid (Keep [w4, w3, w1, w] w4) := Kw4.out.add
  clear Kw4
  have OW : Hid (w.heap.size ≤ w1.heap.size) := B1.out.size
  have OC : Hid (w1.heap.size ≤ w4.heap.size) := Kaw4.out.2.2.1.size
  have OP : Hid (w4.heap.size ≤ w4.heap.size) := Kaw4.out.1.size
  have c0 := (b0.out.below Kaw4.out.2.2.1).c0
  have c1 := (b0.out.below Kaw4.out.2.2.1).c1
  have c2 := (b0.out.below Kaw4.out.2.2.1).c2
  go_wp2_with fail
  have HB0 : Hid (w4.heap.size ≤ w4.heap.size) := Kaw4.out.1.size
  refine (toGame_at (H0.out.below Kaw4.out.2.2.2.1) hn0).mono ?_
  rintro e w5 ⟨x, rfl, hu, hb⟩
  obtain ⟨xa0_0, xc0_0, xa0_1, xc0_1, xa0_2, xc0_2, hus⟩ := hu.shape
  subst hus
  have xX0 := Lib.hid hu
  have HE0 : Hid (w4.heap.size ≤ w5.heap.size) := hb.size
  have Kw5 : Hid (Keep [w4, w3, w1, w] w5) := Kaw4.out.step hb
  clear Kaw4
  clear hu hb
  have Kaw5 : Hid (Keep [w5, w4, w3, w1, w] w5) := Kw5.out.add
  clear Kw5
  clear c0 c1 c2
  obtain ⟨w6, hw6⟩ : ∃ y, y = w5.alloc (.cells #[.slice xa0_0 O0.length xc0_0, .slice xa0_1 z0.length xc0_1, .slice xa0_2 P0.length xc0_2] 32) := ⟨_, rfl⟩
  have Hw6 := Lib.hid hw6
  have hb : Below w5.heap.size w5 w6 := by rw [hw6]; exact below1 _ _
  have xb0 : Hid (Box3 w6 w5.heap.size 32 (.slice xa0_0 O0.length xc0_0) (.slice xa0_1 z0.length xc0_1) (.slice xa0_2 P0.length xc0_2)) := by rw [hw6]; exact Box3.new _ _ _ _ _ 
  have Kw6 : Hid (Keep [w5, w4, w3, w1, w] w6) := Kaw5.out.step hb
  clear Kaw5
  clear hb
  have Kaw6 : Hid (Keep [w6, w5, w4, w3, w1, w] w6) := Kw6.out.add
  clear Kw6
  clear hw6
  have c0 := (xb0.out.below Kaw6.out.1).c0
  have c1 := (xb0.out.below Kaw6.out.1).c1
  have c2 := (xb0.out.below Kaw6.out.1).c2
  rw [Hw6.out] at c0 c1 c2
  go_wp2_with fail
  rw [← Hw6.out]
  have HD0 : Hid (w5.heap.size ≤ w6.heap.size) := Kaw6.out.2.1.size
  refine (WonByT_is (HE.out.below Kaw6.out.2.2.2.2.2.1)  R0.out (xX0.out.below Kaw6.out.2.1).at).mono ?_
  rintro e w7 ⟨x, rfl, hg, hb⟩
  obtain ⟨xga_0, xgc_0, hus⟩ := hg.shape2
  subst hus
  have xG := Lib.hid hg
  have HEG : Hid (w6.heap.size ≤ w7.heap.size) := hb.size
  have Kw7 : Hid (Keep [w6, w5, w4, w3, w1, w] w7) := Kaw6.out.step hb
  clear Kaw6
  clear hb hg
  have Kaw7 : Hid (Keep [w7, w6, w5, w4, w3, w1, w] w7) := Kw7.out.add
  clear Kw7
  clear c0 c1 c2
  go_wp2_with fail
  refine (eqInts_at (xG.out.below Kaw7.out.1).v (pG.out.below Kaw7.out.2.2.2.1).v).mono ?_
  rintro e w8 ⟨rfl, hb⟩
  have Kw8 : Hid (Keep [w7, w6, w5, w4, w3, w1, w] w8) := Kaw7.out.step hb
  clear Kaw7
  clear hb
  have c0 := (b0.out.below Kw8.out.2.2.2.2.2.1).c0
  have c1 := (b0.out.below Kw8.out.2.2.2.2.2.1).c1
  have c2 := (b0.out.below Kw8.out.2.2.2.2.2.1).c2
  have c3 := (xb0.out.below Kw8.out.2.1).c0
  have c4 := (xb0.out.below Kw8.out.2.1).c1
  have c5 := (xb0.out.below Kw8.out.2.1).c2
  have Kdw8 : Hid (Keep [w7, w6, w5, w4, w3, w1, w] w8.drew) := Kw8.out.step (Below.refl _ _).drew
  go_wp2_with fail
  go_region_held3 (fun w' => w'.cell? ⟨w.heap.size, 0, none⟩ = some (.slice u0_0 O0.length d0_0) ∧ w'.cell? ⟨w.heap.size, 1, none⟩ = some (.slice u0_1 z0.length d0_1) ∧ w'.cell? ⟨w.heap.size, 2, none⟩ = some (.slice u0_2 P0.length d0_2) ∧ w'.cell? ⟨w5.heap.size, 0, none⟩ = some (.slice xa0_0 O0.length xc0_0) ∧ w'.cell? ⟨w5.heap.size, 1, none⟩ = some (.slice xa0_1 z0.length xc0_1) ∧ w'.cell? ⟨w5.heap.size, 2, none⟩ = some (.slice xa0_2 P0.length xc0_2))
    (first
      | go_keep
      | exact ⟨d0, d1, d2, d3, d4, d5⟩
      | exact ⟨f0, f1, f2, f3, f4, f5⟩)
    (first
      | (go_at_call 44; refine (toGame_at (H0.out.below Kdw8.out.2.2.2.2.2.2.1) hn0).mono ?_; rintro e w9 ⟨x, rfl, hu, hb⟩; obtain ⟨ya0_0, yc0_0, ya0_1, yc0_1, ya0_2, yc0_2, hus⟩ := hu.shape; subst hus; have yX0 := Lib.hid hu; have Kw9 : Hid (Keep [w7, w6, w5, w4, w3, w1, w] w9) := Kdw8.out.step hb; have d0 := (b0.out.below Kw9.out.2.2.2.2.2.1).c0; have d1 := (b0.out.below Kw9.out.2.2.2.2.2.1).c1; have d2 := (b0.out.below Kw9.out.2.2.2.2.2.1).c2; have d3 := (xb0.out.below Kw9.out.2.1).c0; have d4 := (xb0.out.below Kw9.out.2.1).c1; have d5 := (xb0.out.below Kw9.out.2.1).c2; have Kaw9 : Hid (Keep [w9, w7, w6, w5, w4, w3, w1, w] w9) := Kw9.out.add; clear hu hb)
      | (go_at_call 46; refine (eqGame_at (xX0.out.below Kaw9.out.2.2.2.1).at (yX0.out.below Kaw9.out.1).at).mono ?_; rintro e w10 ⟨rfl, hb⟩; have Kw10 : Hid (Keep [w9, w7, w6, w5, w4, w3, w1, w] w10) := Kaw9.out.step hb; have f0 := (b0.out.below Kw10.out.2.2.2.2.2.2.1).c0; have f1 := (b0.out.below Kw10.out.2.2.2.2.2.2.1).c1; have f2 := (b0.out.below Kw10.out.2.2.2.2.2.2.1).c2; have f3 := (xb0.out.below Kw10.out.2.2.1).c0; have f4 := (xb0.out.below Kw10.out.2.2.1).c1; have f5 := (xb0.out.below Kw10.out.2.2.1).c2; clear hb))
  clear c0 d0 f0 c1 d1 f1 c2 d2 f2 c3 d3 f3 c4 d4 f4 c5 d5 f5
  have Kzw10 : Hid (Keep [w7, w6, w5, w4, w3, w1, w] w10) := Kw10.out.2
  clear Kdw8 Kw9 Kaw9 yX0
  have xX0_w10 := Lib.hid (xX0.out.below Kzw10.out.2.2.1)
  have xb0_w10 := Lib.hid (xb0.out.below Kzw10.out.2.1)
  have xG_w10 := Lib.hid (xG.out.below Kzw10.out.1)
  have KBw10 : Hid (Keep [w4, w1, w] w10) := ⟨Kzw10.out.2.2.2.1, Kzw10.out.2.2.2.2.2.1, Kzw10.out.2.2.2.2.2.2.1, trivial⟩
  clear Kzw10
  have c0 := xb0_w10.out.c0
  have c1 := xb0_w10.out.c1
  have c2 := xb0_w10.out.c2
  go_wp2_with fail
  refine (markGame_at MK0.out xX0_w10.out (by omega) (by omega) HLE0.out).mono ?_
  rintro e t11 ⟨rfl, hx, ho⟩
  have o0 := OW.out
  have o1 := OC.out
  have o2 := OP.out
  have o3 := HEG.out
  have oh0 := HB0.out
  have oe0 := HE0.out
  have od0 := HD0.out
  have KOt11 : Hid (Keep [w4, w1, w] t11) := KBw10.out.only ho (fun a ha b hb => by
    simp only [List.mem_cons, List.not_mem_nil, or_false] at ha
    rcases ha with rfl | rfl | rfl <;> omega)
  clear KBw10
  clear xX0_w10
  clear xb0_w10
  have xG_t11 := Lib.hid (xG_w10.out.only ho (fun g hg hb => by have := (xG_w10.out.own.lt g hg).1; omega))
  clear xG_w10
  clear hx ho o0 o1 o2 o3 oh0 oe0 od0 c0 c1 c2
  go_wp2_with fail
  refine (eqInts_at xG_t11.out.v (pG.out.below KOt11.out.1).v).mono ?_
  rintro e t12 ⟨rfl, hb⟩
  have xG_t12 := Lib.hid (xG_t11.out.below hb)
  clear xG_t11
  have Kt12 : Hid (Keep [w4, w1, w] t12) := KOt11.out.step hb
  clear KOt11
  clear hb
  go_wp2_with fail
  refine (markInts_at MG.out xG_t12.out (by omega) (by omega)).mono ?_
  rintro e t13 ⟨rfl, hx, ho⟩
  have o0 := OW.out
  have o1 := OC.out
  have o2 := OP.out
  have o3 := HEG.out
  have oh0 := HB0.out
  have oe0 := HE0.out
  have od0 := HD0.out
  have KOt13 : Hid (Keep [w4, w1, w] t13) := Kt12.out.only ho (fun a ha b hb => by
    simp only [List.mem_cons, List.not_mem_nil, or_false] at ha
    rcases ha with rfl | rfl | rfl <;> omega)
  clear Kt12
  have M := Lib.hid hx
  clear hx ho o0 o1 o2 o3 oh0 oe0 od0
  have Kat13 : Hid (Keep [t13, w4, w1, w] t13) := KOt13.out.add
  clear KOt13
  go_wp2_with fail
  refine (heldInts_own MG.out (M.out.below Kat13.out.1).v (by omega) (by omega)).mono ?_
  rintro e t14 ⟨rfl, hb⟩
  have Kt14 : Hid (Keep [t13, w4, w1, w] t14) := Kat13.out.step hb
  clear Kat13
  clear hb
  have c0 := (b0.out.below Kt14.out.2.2.1).c0
  have c1 := (b0.out.below Kt14.out.2.2.1).c1
  have c2 := (b0.out.below Kt14.out.2.2.1).c2
  go_wp2_with fail
  refine (toGame_at (H0.out.below Kt14.out.2.2.2.1) hn0).mono ?_
  rintro e w15 ⟨x, rfl, hu, hb⟩
  obtain ⟨ha0_0, hc0_0, ha0_1, hc0_1, ha0_2, hc0_2, hus⟩ := hu.shape
  subst hus
  have hX0 := Lib.hid hu
  have Kw15 : Hid (Keep [t13, w4, w1, w] w15) := Kt14.out.step hb
  clear Kt14
  clear hu hb
  have Kaw15 : Hid (Keep [w15, t13, w4, w1, w] w15) := Kw15.out.add
  clear Kw15
  clear c0 c1 c2
  go_wp2_with fail
  refine (WonByT_is (HE.out.below Kaw15.out.2.2.2.2.1)  R0.out (hX0.out.below Kaw15.out.1).at).mono ?_
  rintro e w16 ⟨x, rfl, hg, hb⟩
  obtain ⟨hga_0, hgc_0, hus⟩ := hg.shape2
  subst hus
  have hG := Lib.hid hg
  have Kw16 : Hid (Keep [w15, t13, w4, w1, w] w16) := Kaw15.out.step hb
  clear Kaw15
  clear hb hg
  have Kaw16 : Hid (Keep [w16, w15, t13, w4, w1, w] w16) := Kw16.out.add
  clear Kw16
  go_wp2_with fail
  refine (eqInts_at (hG.out.below Kaw16.out.1).v (pG.out.below Kaw16.out.2.2.2.1).v).mono ?_
  rintro e w17 ⟨rfl, hb⟩
  have Kw17 : Hid (Keep [w16, w15, t13, w4, w1, w] w17) := Kaw16.out.step hb
  clear Kaw16
  clear hb
  go_wp2_with fail
  refine (heldInts_own MG.out (M.out.below Kw17.out.2.2.1).v (by omega) (by omega)).mono ?_
  rintro e t18 ⟨rfl, hb⟩
  have Kt18 : Hid (Keep [w16, w15, t13, w4, w1, w] t18) := Kw17.out.step hb
  clear Kw17
  clear hb
  go_wp2
  go_ret
  exact ⟨rfl, Kt18.out.2.2.2.2.2.1⟩

end Go.Proofs.YtphkgnpkcfbnkaaDoor
