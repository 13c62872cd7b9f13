/-
  Contract of chapter 5: the program's PlayWon.
-/
import Derived.Test.YtaagbnogbhegdaaWonSpec
import Derived.Test.YtaagbnogbhegdaaLassoImpl
import Derived.Test.YtaagbnogbhegdaaGameImpl
namespace Go.Proofs.Ytaagbnogbhegdaa
open Go.RowKit

set_option maxHeartbeats 8000000 in
set_option maxRecDepth 100000 in
theorem PlayWon_is {w : World} {v vl : Value} {O P X Y : List Int} {zss : List (List Int)} {r : Int} (hr : wonV O zss P X Y = r) (h : GameAt w v O zss P) (hl : LassoC w vl X Y) :
    Calls Try.prog 31 #[v, vl] w fun e w' => e = .returned (.int .i64 r) ∧ Below w.heap.size w w' := by
  have HGm := Lib.hid h
  have HLm := Lib.hid hl
  obtain ⟨ao, an, ap, co, cn, cp, A, C, rfl, h1, h2, h3⟩ := h
  obtain ⟨ax, ay, cx, cy, rfl, hX, hY, _⟩ := hl
  have HAt : Hid (ArenaAt w (.agg #[.slice ao O.length co, .slice an zss.length cn]) O zss) := ⟨_, _, _, _, _, _, rfl, h1, h2⟩
  have hlP := h3.len
  have hlY := hY.len
  have HPi := Lib.hid h3
  have HYi := Lib.hid hY
  obtain ⟨w1, hw1⟩ : ∃ y, y = (w.alloc (.cells #[.slice ao O.length co, .slice an zss.length cn, .slice ap P.length cp] 38)).alloc (.cells #[.slice ax X.length cx, .slice ay Y.length cy] 43) := ⟨_, rfl⟩
  have HW1 := Lib.hid hw1
  have B1 : Hid (Below w.heap.size w w1) := by rw [hw1]; exact below2 _ _ _
  have T1 : Hid (Box3 w1 w.heap.size 38 (.slice ao O.length co) (.slice an zss.length cn) (.slice ap P.length cp)) := by
    rw [hw1]; exact (Box3.new w 38 (.slice ao O.length co) (.slice an zss.length cn) (.slice ap P.length cp)).below (below1 _ _)
  have R1 : Hid (Box2 w1 (w.heap.size + 1) 43 (.slice ax X.length cx) (.slice ay Y.length cy)) := by rw [hw1]; exact Box2.new_at (by simp) _ _ _
  clear hw1 h1 h2 h3 hX hY
  cases hp : parityB O zss P with
  | false =>
    have HE : Hid (r = -1) := by rw [← hr]; unfold wonV; rw [hp]; simp [Hid]
    have HC := Lib.hid (ParityOk_is hp (HGm.out.below B1.out))
    clear hr hp
    go_enter Try.func31, Try.ntmps31
    go_wp2_with fail
    rw [← HW1.out]
    refine HC.out.mono ?_
    rintro e w2 ⟨rfl, hb⟩
    have B2 := Lib.hid (B1.out.trans (hb.mono B1.out.size))
    clear hb HC
    go_wp2
    go_ret
    exact ⟨ret_i64 HE.out.symm, B2.out⟩
  | true =>
    have HC := Lib.hid (ParityOk_is hp (HGm.out.below B1.out))
    cases hq : lassoB O zss X Y with
    | false =>
      have HE : Hid (r = -1) := by rw [← hr]; unfold wonV; rw [hq]; simp [Hid]
      have HQ := Lib.hid hq
      clear hr hp hq
      go_enter Try.func31, Try.ntmps31
      go_wp2_with fail
      rw [← HW1.out]
      refine HC.out.mono ?_
      rintro e w2 ⟨rfl, hb⟩
      have B2 := Lib.hid (B1.out.trans (hb.mono B1.out.size))
      have T2 := Lib.hid (T1.out.below hb)
      have R2 := Lib.hid (R1.out.below hb)
      have t0 := T2.out.c0
      have t1 := T2.out.c1
      have r0 := R2.out.cell0
      have r1 := R2.out.cell1
      clear hb HC
      go_wp2_with fail
      refine (LassoOk_is HQ.out (HAt.out.below B2.out) (HLm.out.below B2.out)).mono ?_
      rintro e w3 ⟨rfl, hb⟩
      have B3 := Lib.hid (B2.out.trans (hb.mono B2.out.size))
      clear hb t0 t1 r0 r1
      go_wp2
      go_ret
      exact ⟨ret_i64 HE.out.symm, B3.out⟩
    | true =>
      have HQ := Lib.hid hq
      have hlo := lassoB_iff.1 hq
      have hPL : P.length = O.length := (parityB_iff.1 hp).2.1
      have HIN : Hid (∀ x ∈ Y, ∃ u : Nat, x = (u : Int) ∧ u < P.length) := by rw [hPL]; exact lasso_loop hq
      have hY0 : 0 < Y.length := hlo.2.2.1
      have hY256 : Y.length ≤ 256 := hlo.2.2.2.1
      have HZ : Hid (0 < (pickP P Y).length) := by rw [pickP_len]; exact hY0
      have hM0 : 0 ≤ maxN (pickP P Y) ((pickP P Y).length - 1) ∧ maxN (pickP P Y) ((pickP P Y).length - 1) = top0 P Y Y.length := by
        have h := top0_k (P := P) (In := Y) Y.length fun j hj => by
          obtain ⟨u, hu, hup⟩ := HIN.out _ (nth_mem hj)
          rw [hu, Int.toNat_natCast]
          exact ((parityB_iff.1 hp).2.2 _ (nth_mem hup)).1
        rw [← top_max HIN.out (parityB_iff.1 hp).2.2 hY0]
        rw [h.2 hY0] at h
        exact ⟨h.1, (top0_k (P := P) (In := Y) Y.length fun j hj => by
          obtain ⟨u, hu, hup⟩ := HIN.out _ (nth_mem hj)
          rw [hu, Int.toNat_natCast]
          exact ((parityB_iff.1 hp).2.2 _ (nth_mem hup)).1).2 hY0 |>.symm⟩
      obtain ⟨m, hm⟩ : ∃ m, maxN (pickP P Y) ((pickP P Y).length - 1) = m := ⟨_, rfl⟩
      rw [hm] at hM0
      have HM := Lib.hid hm
      have hm0 := hM0.1
      have HE : Hid (m % 2 = r) := by rw [← hr, hM0.2]; unfold wonV; rw [hp, hq]; simp [Hid]
      clear hr hp hq hlo hm hM0 hPL
      go_enter Try.func31, Try.ntmps31
      go_wp2_with fail
      rw [← HW1.out]
      refine HC.out.mono ?_
      rintro e w2 ⟨rfl, hb⟩
      have B2 := Lib.hid (B1.out.trans (hb.mono B1.out.size))
      have T2 := Lib.hid (T1.out.below hb)
      have R2 := Lib.hid (R1.out.below hb)
      have t0 := T2.out.c0
      have t1 := T2.out.c1
      have r0 := R2.out.cell0
      have r1 := R2.out.cell1
      clear hb HC
      go_wp2_with fail
      refine (LassoOk_is HQ.out (HAt.out.below B2.out) (HLm.out.below B2.out)).mono ?_
      rintro e w3 ⟨rfl, hb⟩
      have B3 := Lib.hid (B2.out.trans (hb.mono B2.out.size))
      have T3 := Lib.hid (T2.out.below hb)
      have R3 := Lib.hid (R2.out.below hb)
      clear hb t0 t1 r0 r1
      have t0 := T3.out.c0
      have t1 := T3.out.c1
      have t2 := T3.out.c2
      have r1 := R3.out.cell1
      go_wp2_with fail
      refine (prios_is cy (HGm.out.below B3.out) (HYi.out.below B3.out) HIN.out (by omega)).mono ?_
      rintro e w4 ⟨x, rfl, hx, hb⟩
      obtain ⟨xa, xc, hxs, hxi, _⟩ := hx.shape
      subst hxs
      have X4 := Lib.hid hxi
      have B4 := Lib.hid (B3.out.trans (hb.mono B3.out.size))
      clear hx hxi hb t0 t1 t2 r1
      go_wp2_with fail
      refine (Max_is xc HM.out X4.out HZ.out).mono ?_
      rintro e w5 ⟨rfl, rfl⟩
      go_wp2
      go_ret
      exact ⟨by first | exact ret_i64 HE.out | (rw [HE.out]), B4.out⟩

end Go.Proofs.Ytaagbnogbhegdaa
