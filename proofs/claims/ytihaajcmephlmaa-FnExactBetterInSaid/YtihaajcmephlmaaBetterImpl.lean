/-
  Contract: BetterIn.
-/
import Derived.Test.YtihaajcmephlmaaWorthImpl
import Derived.Test.YtihaajcmephlmaaAppR
namespace Go.Proofs.Ytihaajcmephlmaa
section
open Go.RowKit Go.Shelf

theorem betterIn_a1 {O P S R : List Int} {zss : List (List Int)} {h g y z : Int} (hw : worthB O zss P h S y = false) : betterInB O zss P h S y g R z = false := by unfold betterInB; rw [hw]; rfl
theorem betterIn_b1 {O P S R : List Int} {zss : List (List Int)} {h g y z : Int} (hw : worthB O zss P g R z = false) : betterInB O zss P h S y g R z = false := by unfold betterInB; rw [hw]; simp
theorem betterIn_yes1 {O P S R : List Int} {zss : List (List Int)} {h g : Nat} {y z : Int} (hw : worthB O zss P h S y = true) (hw2 : worthB O zss P g R z = true) : betterInB O zss P h S y g R z = betterB P h S y g R z := by
  unfold betterInB
  rw [hw, hw2]
  simp
theorem worth_all {O P S : List Int} {zss : List (List Int)} {h y : Int} (hw : worthB O zss P h S y = true) : ∃ i : Nat, h = (i : Int) ∧ i < P.length ∧ P.length = O.length ∧ P.length ≤ 12 ∧ (∀ p ∈ P, 0 ≤ p ∧ p ≤ 40) ∧ S.length ≤ 12 ∧ (∀ k, k < S.length → 0 ≤ nth S k ∧ nth S k < P.length) ∧ 0 ≤ y ∧ y ≤ 12 := by
  obtain ⟨hs, hh, hS, hy, _⟩ := worth_iff.1 hw
  have h1 := thereB_iff.1 hh
  obtain ⟨h2, h3⟩ := small_len hs
  have h4 := setB_len (by omega) hS
  refine ⟨h.toNat, by omega, by omega, h2, h3, (parityB_iff.1 (smallB_iff.1 hs).2).2.2, by omega, fun k hk => ?_, hy.1, hy.2⟩
  have := setB_bounds hS hk
  omega

set_option linter.unusedSimpArgs false in
set_option maxRecDepth 100000 in
set_option maxHeartbeats 8000000 in
theorem BetterIn_is {w : World} {v u t : Value} {O P S R : List Int} {zss : List (List Int)} {h0 h1 y z : Int} {r : Bool} (hr : betterInB O zss P h0 S y h1 R z = r) (h : GameAt w v O zss P) (hwa : WorthAt w u h0 S y) (hwb : WorthAt w t h1 R z) :
    Calls Try.prog 14 #[v, u, t] w fun e w' => e = .returned (.bool r) ∧ Below w.heap.size w w' := by
  have HUa := Lib.hid hwa
  have HTb := Lib.hid hwb
  have HGm := Lib.hid h
  obtain ⟨ao, an, ap, co, cn, cp, A, C, rfl, g1, g2, g3⟩ := h
  obtain ⟨aa, ca, rfl, ha⟩ := hwa
  obtain ⟨ab, cb, rfl, hb⟩ := hwb
  have HAa := Lib.hid ha
  have HBb := Lib.hid hb
  obtain ⟨w1, hw1⟩ : ∃ q, q = ((w.alloc (.cells #[.slice ao O.length co, .slice an zss.length cn, .slice ap P.length cp] 32)).alloc (.cells #[.int .i64 h0, .slice aa S.length ca, .int .i64 y] 35)).alloc (.cells #[.int .i64 h1, .slice ab R.length cb, .int .i64 z] 35) := ⟨_, rfl⟩
  have HW1 := Lib.hid hw1
  have B1 : Hid (Below w.heap.size w w1) := by rw [hw1]; exact (below2 _ _ _).alloc (by simp; omega) _
  have T1 : Hid (Box3 w1 w.heap.size 32 (.slice ao O.length co) (.slice an zss.length cn) (.slice ap P.length cp)) := by rw [hw1]; exact ((Box3.new w _ _ _ _).alloc _).alloc _
  have X1 : Hid (Box3 w1 (w.heap.size + 1) 35 (.int .i64 h0) (.slice aa S.length ca) (.int .i64 y)) := by rw [hw1]; exact (Box3.new_at (by simp) _ _ _ _).alloc _
  have Y1 : Hid (Box3 w1 (w.heap.size + 1 + 1) 35 (.int .i64 h1) (.slice ab R.length cb) (.int .i64 z)) := by rw [hw1]; exact Box3.new_at (by simp) _ _ _ _
  have t0 := T1.out.c0
  have t1 := T1.out.c1
  have t2 := T1.out.c2
  have x0 := X1.out.c0
  have x1 := X1.out.c1
  have x2 := X1.out.c2
  have y0 := Y1.out.c0
  have y1 := Y1.out.c1
  have y2 := Y1.out.c2
  clear g1 g2 g3 ha hb
  rw [hw1] at t0 t1 t2 x0 x1 x2 y0 y1 y2
  clear hw1
  cases hA : worthB O zss P h0 S y with
  | false =>
    have HE : Hid (r = false) := by rw [← hr]; exact betterIn_a1 hA
    clear hr
    go_enter Try.func14, Try.ntmps14
    go_wp2_with fail
    rw [← HW1.out]
    refine (WorthOk_is hA (HGm.out.below B1.out) (HUa.out.below B1.out)).mono ?_
    rintro e w2 ⟨rfl, hb⟩
    have B2 := Lib.hid (B1.out.trans (hb.mono B1.out.size))
    have T2 := Lib.hid (T1.out.below hb)
    have X2 := Lib.hid (X1.out.below hb)
    have Y2 := Lib.hid (Y1.out.below hb)
    clear hb
    clear t0 t1 t2 x0 x1 x2 y0 y1 y2
    have t0 := T2.out.c0
    have t1 := T2.out.c1
    have t2 := T2.out.c2
    have x0 := X2.out.c0
    have x1 := X2.out.c1
    have x2 := X2.out.c2
    have y0 := Y2.out.c0
    have y1 := Y2.out.c1
    have y2 := Y2.out.c2
    go_wp2
    go_ret
    exact ⟨ret_bool HE.out.symm, B2.out⟩
  | true =>
    cases hB : worthB O zss P h1 R z with
    | false =>
      have HE : Hid (r = false) := by rw [← hr]; exact betterIn_b1 hB
      clear hr
      go_enter Try.func14, Try.ntmps14
      go_wp2_with fail
      rw [← HW1.out]
      refine (WorthOk_is hA (HGm.out.below B1.out) (HUa.out.below B1.out)).mono ?_
      rintro e w2 ⟨rfl, hb⟩
      have B2 := Lib.hid (B1.out.trans (hb.mono B1.out.size))
      have T2 := Lib.hid (T1.out.below hb)
      have X2 := Lib.hid (X1.out.below hb)
      have Y2 := Lib.hid (Y1.out.below hb)
      clear hb
      clear t0 t1 t2 x0 x1 x2 y0 y1 y2
      have t0 := T2.out.c0
      have t1 := T2.out.c1
      have t2 := T2.out.c2
      have x0 := X2.out.c0
      have x1 := X2.out.c1
      have x2 := X2.out.c2
      have y0 := Y2.out.c0
      have y1 := Y2.out.c1
      have y2 := Y2.out.c2
      go_wp2_with fail
      refine (WorthOk_is hB (HGm.out.below B2.out) (HTb.out.below B2.out)).mono ?_
      rintro e w3 ⟨rfl, hb⟩
      have B3 := Lib.hid (B2.out.trans (hb.mono B2.out.size))
      have T3 := Lib.hid (T2.out.below hb)
      have X3 := Lib.hid (X2.out.below hb)
      have Y3 := Lib.hid (Y2.out.below hb)
      clear hb
      clear t0 t1 t2 x0 x1 x2 y0 y1 y2
      have t0 := T3.out.c0
      have t1 := T3.out.c1
      have t2 := T3.out.c2
      have x0 := X3.out.c0
      have x1 := X3.out.c1
      have x2 := X3.out.c2
      have y0 := Y3.out.c0
      have y1 := Y3.out.c1
      have y2 := Y3.out.c2
      go_wp2
      go_ret
      exact ⟨ret_bool HE.out.symm, B3.out⟩
    | true =>
      obtain ⟨i, rfl, hi, hlO, h12, hP, hSl, hSb, hy0, hy1⟩ := worth_all hA
      obtain ⟨j, rfl, hj, -, -, -, hRl, hRb, hz0, hz1⟩ := worth_all hB
      have HPp := Lib.hid hP
      have HLO := Lib.hid hlO
      have HSl := Lib.hid hSl
      have HSb := Lib.hid hSb
      have HRl := Lib.hid hRl
      have HRb := Lib.hid hRb
      have hy : 0 ≤ y ∧ y ≤ 12 := ⟨hy0, hy1⟩
      have hz : 0 ≤ z ∧ z ≤ 12 := ⟨hz0, hz1⟩
      have hP0 : 0 < P.length := by omega
      have HR : Hid (betterB P i S y j R z = r) := by rw [← hr]; exact (betterIn_yes1 hA hB).symm
      have HBI := Lib.hid (better_is hA hB)
      obtain ⟨q, hq⟩ : ∃ q, cmp3 (gainI P i) (sumV P S) (wayV P i y) (gainI P j) (sumV P R) (wayV P j z) = q := ⟨_, rfl⟩
      have HQ := Lib.hid hq
      rw [hq] at HBI
      clear hr hP hq hlO hSl hSb hRl hRb hy0 hy1 hz0 hz1
      go_enter Try.func14, Try.ntmps14
      go_wp2_with fail
      rw [← HW1.out]
      refine (WorthOk_is hA (HGm.out.below B1.out) (HUa.out.below B1.out)).mono ?_
      rintro e w2 ⟨rfl, hb⟩
      have B2 := Lib.hid (B1.out.trans (hb.mono B1.out.size))
      have T2 := Lib.hid (T1.out.below hb)
      have X2 := Lib.hid (X1.out.below hb)
      have Y2 := Lib.hid (Y1.out.below hb)
      clear hb
      clear t0 t1 t2 x0 x1 x2 y0 y1 y2
      have t0 := T2.out.c0
      have t1 := T2.out.c1
      have t2 := T2.out.c2
      have x0 := X2.out.c0
      have x1 := X2.out.c1
      have x2 := X2.out.c2
      have y0 := Y2.out.c0
      have y1 := Y2.out.c1
      have y2 := Y2.out.c2
      go_wp2_with fail
      refine (WorthOk_is hB (HGm.out.below B2.out) (HTb.out.below B2.out)).mono ?_
      rintro e w3 ⟨rfl, hb⟩
      have B3 := Lib.hid (B2.out.trans (hb.mono B2.out.size))
      have T3 := Lib.hid (T2.out.below hb)
      have X3 := Lib.hid (X2.out.below hb)
      have Y3 := Lib.hid (Y2.out.below hb)
      clear hb
      clear t0 t1 t2 x0 x1 x2 y0 y1 y2
      have t0 := T3.out.c0
      have t1 := T3.out.c1
      have t2 := T3.out.c2
      have x0 := X3.out.c0
      have x1 := X3.out.c1
      have x2 := X3.out.c2
      have y0 := Y3.out.c0
      have y1 := Y3.out.c1
      have y2 := Y3.out.c2
      go_wp2_with fail
      refine (newAppraiser_is HLO.out hP0 h12 HPp.out (HGm.out.below B3.out)).mono ?_
      rintro e w4 ⟨s, rfl, hAp, hb⟩
      have HAp0 := Lib.hid hAp
      obtain ⟨qo, qn, qp, qs, c1, c2, c3, c4, rfl, -⟩ := hAp
      have HAp := HAp0
      have B4 := Lib.hid (B3.out.trans (hb.mono B3.out.size))
      have T4 := Lib.hid (T3.out.below hb)
      have X4 := Lib.hid (X3.out.below hb)
      have Y4 := Lib.hid (Y3.out.below hb)
      clear hb HAp0 t0 t1 t2 x0 x1 x2 y0 y1 y2
      go_upto_region 4 with fail
      obtain ⟨w5, hw5⟩ : ∃ q, q = w4.alloc (.cells #[.slice qo O.length c1, .slice qn zss.length c2, .slice qp P.length c3, .slice qs P.length c4] 69) := ⟨_, rfl⟩
      have K5 : Hid (Below w4.heap.size w4 w5) := by rw [hw5]; exact below1 _ _
      have RA : Hid (w5.rowIs w4.heap.size 69 4 (lf [.slice qo O.length c1, .slice qn zss.length c2, .slice qp P.length c3, .slice qs P.length c4])) := by rw [hw5]; exact lf_new _ [.slice qo O.length c1, .slice qn zss.length c2, .slice qp P.length c3, .slice qs P.length c4] _
      rw [← hw5]
      clear hw5
      have B5 := Lib.hid (B4.out.trans (K5.out.mono B4.out.size))
      have X5 := Lib.hid (X4.out.below K5.out)
      have Y5 := Lib.hid (Y4.out.below K5.out)
      have Kd : Hid (Below w5.heap.size w5 w5.drew) := (Below.refl _ _).drew
      have HSw : Hid (∀ W', Below w5.heap.size w5 W' → (fun W' => W'.cell? ⟨w4.heap.size, 0, none⟩ = some (.slice qo O.length c1) ∧ W'.cell? ⟨w4.heap.size, 1, none⟩ = some (.slice qn zss.length c2) ∧ W'.cell? ⟨w4.heap.size, 2, none⟩ = some (.slice qp P.length c3) ∧ W'.cell? ⟨w4.heap.size, 3, none⟩ = some (.slice qs P.length c4) ∧ W'.cell? ⟨w.heap.size + 1, 0, none⟩ = some (.int .i64 i) ∧ W'.cell? ⟨w.heap.size + 1, 1, none⟩ = some (.slice aa S.length ca) ∧ W'.cell? ⟨w.heap.size + 1, 2, none⟩ = some (.int .i64 y) ∧ W'.cell? ⟨w.heap.size + 1 + 1, 0, none⟩ = some (.int .i64 j) ∧ W'.cell? ⟨w.heap.size + 1 + 1, 1, none⟩ = some (.slice ab R.length cb) ∧ W'.cell? ⟨w.heap.size + 1 + 1, 2, none⟩ = some (.int .i64 z)) W') := fun W' hB =>
        ⟨(rowIs_below RA.out hB).cell (i := 0) (by omega), (rowIs_below RA.out hB).cell (i := 1) (by omega), (rowIs_below RA.out hB).cell (i := 2) (by omega), (rowIs_below RA.out hB).cell (i := 3) (by omega), (X5.out.below hB).c0, (X5.out.below hB).c1, (X5.out.below hB).c2, (Y5.out.below hB).c0, (Y5.out.below hB).c1, (Y5.out.below hB).c2⟩
      refine wp_region_M (S := (fun W' => W'.cell? ⟨w4.heap.size, 0, none⟩ = some (.slice qo O.length c1) ∧ W'.cell? ⟨w4.heap.size, 1, none⟩ = some (.slice qn zss.length c2) ∧ W'.cell? ⟨w4.heap.size, 2, none⟩ = some (.slice qp P.length c3) ∧ W'.cell? ⟨w4.heap.size, 3, none⟩ = some (.slice qs P.length c4) ∧ W'.cell? ⟨w.heap.size + 1, 0, none⟩ = some (.int .i64 i) ∧ W'.cell? ⟨w.heap.size + 1, 1, none⟩ = some (.slice aa S.length ca) ∧ W'.cell? ⟨w.heap.size + 1, 2, none⟩ = some (.int .i64 y) ∧ W'.cell? ⟨w.heap.size + 1 + 1, 0, none⟩ = some (.int .i64 j) ∧ W'.cell? ⟨w.heap.size + 1 + 1, 1, none⟩ = some (.slice ab R.length cb) ∧ W'.cell? ⟨w.heap.size + 1 + 1, 2, none⟩ = some (.int .i64 z))) (m := 9) (by kernel_rfl) (HSw.out _ Kd.out) (fun hHeld => ?_)
      refine wpAnyM_take (i := 0) (v := ?vm44) rfl (by kernel_rfl) (by decide) (by kernel_rfl) (by kernel_rfl) (by kernel_rfl) (fun _ _ _ h => h) (Or.inl ⟨by rfl, ?hm44⟩) (by assumption) ?_
      case hm44 => (intro w hSw; (try dsimp only at hSw); go_simp; first | done | with_reducible rfl)
      try simp only [Act.put, List.getElem_toArray, List.getElem_cons_succ, List.getElem_cons_zero, List.setIfInBounds_toArray, List.set_cons_zero, List.set_cons_succ]
      refine wpAnyM_take (i := 1) (v := ?vm45) rfl (by kernel_rfl) (by decide) (by kernel_rfl) (by kernel_rfl) (by kernel_rfl) (fun _ _ _ h => h) (Or.inl ⟨by rfl, ?hm45⟩) (by assumption) ?_
      case hm45 => (intro w hSw; (try dsimp only at hSw); go_simp; first | done | with_reducible rfl)
      try simp only [Act.put, List.getElem_toArray, List.getElem_cons_succ, List.getElem_cons_zero, List.setIfInBounds_toArray, List.set_cons_zero, List.set_cons_succ]
      refine wpAnyM_take (i := 3) (v := ?vm46) rfl (by kernel_rfl) (by decide) (by kernel_rfl) (by kernel_rfl) (by kernel_rfl) (fun _ _ _ h => h) (Or.inl ⟨by rfl, ?hm46⟩) (by assumption) ?_
      case hm46 => (intro w hSw; (try dsimp only at hSw); go_simp; first | done | with_reducible rfl)
      try simp only [Act.put, List.getElem_toArray, List.getElem_cons_succ, List.getElem_cons_zero, List.setIfInBounds_toArray, List.set_cons_zero, List.set_cons_succ]
      refine wpAnyM_take (i := 4) (v := ?vm47) rfl (by kernel_rfl) (by decide) (by kernel_rfl) (by kernel_rfl) (by kernel_rfl) (fun _ _ _ h => h) (Or.inl ⟨by rfl, ?hm47⟩) (by assumption) ?_
      case hm47 => (intro w hSw; (try dsimp only at hSw); go_simp; first | done | with_reducible rfl)
      try simp only [Act.put, List.getElem_toArray, List.getElem_cons_succ, List.getElem_cons_zero, List.setIfInBounds_toArray, List.set_cons_zero, List.set_cons_succ]
      refine wpAnyM_one (i := 2) (by kernel_rfl) rfl (fun K hK => ?_)
      go_simp
      go_at_call 39
      refine (valued_is h12 hi HSl.out HSb.out hy (HAp.out.below (K5.out.trans (((Kd.out)).mono K5.out.size))) (HUa.out.below (B5.out.trans (((Kd.out)).mono B5.out.size)))).mono ?_
      rintro e vp ⟨qa, qc, rfl, hb⟩
      have Kp := Lib.hid (Kd.out.trans (hb.mono Kd.out.size))
      clear hb
      go_wp2_with fail
      refine hK.out _ _ (fun _ => HSw.out _ Kp.out) (fun hHeld => ?_)
      have hHeld := hHeld (by decide)
      clear hK K
      try simp only [Act.put, List.getElem_toArray, List.getElem_cons_succ, List.getElem_cons_zero, List.setIfInBounds_toArray, List.set_cons_zero, List.set_cons_succ]
      refine wpAnyM_one (i := 5) (by kernel_rfl) rfl (fun K hK => ?_)
      go_simp
      go_at_call 39
      refine (valued_is h12 hj HRl.out HRb.out hz (HAp.out.below (K5.out.trans (((Kp.out)).mono K5.out.size))) (HTb.out.below (B5.out.trans (((Kp.out)).mono B5.out.size)))).mono ?_
      rintro e vq ⟨qb, qd, rfl, hb⟩
      have Kq := Lib.hid (Kp.out.trans (hb.mono Kp.out.size))
      clear hb
      go_wp2_with fail
      refine hK.out _ _ (fun _ => HSw.out _ Kq.out) (fun hHeld => ?_)
      have hHeld := hHeld (by decide)
      clear hK K
      try simp only [Act.put, List.getElem_toArray, List.getElem_cons_succ, List.getElem_cons_zero, List.setIfInBounds_toArray, List.set_cons_zero, List.set_cons_succ]
      refine wpAnyM_one (i := 6) (by kernel_rfl) rfl (fun K hK => ?_)
      go_simp
      go_at_call 40
      refine (valuedCompare_is HQ.out).mono ?_
      rintro e vr ⟨rfl, hb⟩
      have Kr := Lib.hid (Kq.out.trans (hb.mono Kq.out.size))
      clear hb
      go_wp2_with fail
      refine hK.out _ _ (fun _ => HSw.out _ Kr.out) (fun hHeld => ?_)
      have hHeld := hHeld (by decide)
      clear hK K
      try simp only [Act.put, List.getElem_toArray, List.getElem_cons_succ, List.getElem_cons_zero, List.setIfInBounds_toArray, List.set_cons_zero, List.set_cons_succ]
      refine wpAnyM_take (i := 7) (v := ?vm48) rfl (by kernel_rfl) (by decide) (by kernel_rfl) (by kernel_rfl) (by kernel_rfl) (fun _ _ _ h => h) (Or.inl ⟨by rfl, ?hm48⟩) (by assumption) ?_
      case hm48 => (intro w hSw; (try dsimp only at hSw); go_simp; first | done | with_reducible rfl)
      try simp only [Act.put, List.getElem_toArray, List.getElem_cons_succ, List.getElem_cons_zero, List.setIfInBounds_toArray, List.set_cons_zero, List.set_cons_succ]
      refine wpAnyM_one (i := 8) (by kernel_rfl) rfl (fun K hK => ?_)
      go_simp
      refine hK.out _ _ (fun _ => HSw.out _ Kr.out) (fun hHeld => ?_)
      have hHeld := hHeld (by decide)
      clear hK K
      try simp only [Act.put, List.getElem_toArray, List.getElem_cons_succ, List.getElem_cons_zero, List.setIfInBounds_toArray, List.set_cons_zero, List.set_cons_succ]
      refine wpAnyM_done (by kernel_rfl) ?_ _
      go_wp2
      go_ret
      exact ⟨ret_bool (show _ = r by rw [← HR.out, Bool.eq_iff_iff, decide_eq_true_eq]; exact HBI.out), B5.out.trans (Kr.out.mono B5.out.size)⟩
end
end Go.Proofs.Ytihaajcmephlmaa
