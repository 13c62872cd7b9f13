/-
  The walk of the law FnPressed.
-/
import Derived.Test.YtmobegiojhlakaaDrawPressed
import Derived.Test.YtmobegiojhlakaaPress
import Derived.Test.YtmobegiojhlakaaSameParity
import Derived.Test.YtmobegiojhlakaaDrawTwo
import Derived.Test.YtmobegiojhlakaaKeep
import Derived.Test.YtmobegiojhlakaaGameImpl
import Derived.Deep.RegionHeld3
namespace Go.Proofs.Ytmobegiojhlakaa
open Go.RowKit

theorem pressed_valid {O P : List Int} {zss : List (List Int)} (h : parityB O zss P = true) : parityB O zss (pressL P) = true := by
  obtain ⟨h1, h2, h3⟩ := parityB_iff.1 h
  exact parityB_iff.2 ⟨h1, by rw [pressL_len]; exact h2, press_bound h3⟩
theorem samePB_self {O P : List Int} {zss : List (List Int)} (h : parityB O zss P = true) : samePB O zss P O zss P = true := by
  unfold samePB sameB
  have h1 := (parityB_iff.1 h).1
  rw [h]
  simp [h1]

set_option maxHeartbeats 16000000 in
set_option maxRecDepth 100000 in
theorem lawFnPressed {w : World} {ab : Option Addr} {cb : Nat} {bs : List Int} (hby : BytesAt w ab bs) :
    Calls Try.prog 4 #[.slice ab bs.length cb] w fun e w' => e = .returned (.bool true) ∧ Below w.heap.size w w' := by
  have HY := Lib.hid hby
  have hbl := hby.len
  clear hby
  by_cases hbig : 4096 < (bs.length : Int)
  · have HG := Lib.hid (big_is (w := w) (ab := ab) (cb := cb) (decide_eq_true hbig))
    clear hbig
    go_enter Try.func4, Try.ntmps4
    go_wp2_with (go_at_call 14; refine HG.out.mono ?_; rintro e w' ⟨rfl, rfl⟩)
    go_ret
    exact ⟨rfl, Below.refl _ _⟩
  have HG := Lib.hid (big_is (w := w) (ab := ab) (cb := cb) (decide_eq_false hbig))
  have HDr := Lib.hid (specDrawPressed_is (cb := cb) HY.out (by omega))
  clear hbig HY
  go_enter Try.func4, Try.ntmps4
  go_wp2_with fail
  refine HG.out.mono ?_
  rintro e w' ⟨rfl, rfl⟩
  go_wp2_with fail
  refine HDr.out.mono ?_
  rintro e w1 ⟨v, O, zss, P, rfl, hG, hO, hZ, hP, hb⟩
  obtain ⟨a0, k0, a1, k1, a2, k2, hvs⟩ := hG.shape
  subst hvs
  obtain ⟨w2, hw2⟩ : ∃ y, y = w1.alloc (.cells #[.slice a0 O.length k0, .slice a1 zss.length k1, .slice a2 P.length k2] 32) := ⟨_, rfl⟩
  have HW2 := Lib.hid hw2
  have hb2 : Below w1.heap.size w1 w2 := by rw [hw2]; exact below1 _ _
  have B2 := Lib.hid (hb.trans (hb2.mono hb.size))
  have A2 := Lib.hid (hG.below hb2).at
  have T2 : Hid (Box3 w2 w1.heap.size 32 (.slice a0 O.length k0) (.slice a1 zss.length k1) (.slice a2 P.length k2)) := by rw [hw2]; exact Box3.new _ _ _ _ _
  have c0 := T2.out.c0
  have c1 := T2.out.c1
  have c2 := T2.out.c2
  rw [hw2] at c0 c1 c2
  clear hw2 hb2 hb hG HG HDr
  cases hp : parityB O zss P with
  | false =>
    have HPr := Lib.hid (Pressed_is (w := w2) (gO := []) (gN := []) (gP := []) ⟨by unfold pressO; rw [hp]; simp, by unfold pressN; rw [hp]; simp, by unfold pressV; rw [hp]; simp⟩ A2.out)
    have HPb := Lib.hid hp
    clear hp
    go_wp2_with fail
    rw [← HW2.out]
    refine HPr.out.mono ?_
    rintro e w3 ⟨x, rfl, hx, hb⟩
    obtain ⟨b0, l0, b1, l1, b2, l2, hvs⟩ := hx.shape
    subst hvs
    obtain ⟨w4, hw4⟩ : ∃ y, y = w3.alloc (.cells #[.slice b0 0 l0, .slice b1 0 l1, .slice b2 0 l2] 32) := ⟨_, rfl⟩
    have HW4 := Lib.hid hw4
    have hb4 : Below w2.heap.size w2 w4 := by rw [hw4]; exact hb.trans ((below1 w3 _).mono hb.size)
    have K4 := Lib.hid hb4
    have U4 : Hid (Box3 w4 w3.heap.size 32 (.slice b0 0 l0) (.slice b1 0 l1) (.slice b2 0 l2)) := by rw [hw4]; exact Box3.new _ _ _ _ _
    have B4 := Lib.hid (B2.out.trans (hb4.mono B2.out.size))
    clear c0 c1 c2
    have c0 := (T2.out.below hb4).c0
    have c1 := (T2.out.below hb4).c1
    have c2 := (T2.out.below hb4).c2
    rw [hw4] at c0 c1 c2
    clear hb hb4 hx hw4
    go_wp2_with fail
    rw [← HW4.out]
    refine (specParityOk_is HPb.out (A2.out.below K4.out)).mono ?_
    rintro e w5 ⟨rfl, hb⟩
    have B5 := Lib.hid (B4.out.trans (hb.mono B4.out.size))
    have u2 := (U4.out.below hb).c2
    clear hb c0 c1 c2
    go_wp2
    go_ret
    exact ⟨rfl, B5.out⟩
  | true =>
    obtain ⟨Q, hQ⟩ : ∃ Q, Q = pressL P := ⟨_, rfl⟩
    have HQ := Lib.hid hQ
    have hPy := parityB_iff.1 hp
    have HPr := Lib.hid (Pressed_is (w := w2) (gO := O) (gN := zss) (gP := Q) ⟨by unfold pressO; rw [hp]; simp, by unfold pressN; rw [hp]; simp, by unfold pressV; rw [hp, hQ]; simp⟩ A2.out)
    have HPb := Lib.hid hp
    have HQb : Hid (parityB O zss Q = true) := by rw [hQ]; exact pressed_valid hp
    have HPB := Lib.hid hPy.2.2
    have HLQ : Hid (Q.length = P.length) := by rw [hQ]; exact pressL_len
    clear hp hPy hQ
    go_wp2_with fail
    rw [← HW2.out]
    refine HPr.out.mono ?_
    rintro e w3 ⟨x, rfl, hx, hb⟩
    obtain ⟨b0, l0, b1, l1, b2, l2, hvs⟩ := hx.shape
    subst hvs
    obtain ⟨w4, hw4⟩ : ∃ y, y = w3.alloc (.cells #[.slice b0 O.length l0, .slice b1 zss.length l1, .slice b2 Q.length l2] 32) := ⟨_, rfl⟩
    have HW4 := Lib.hid hw4
    have hb34 : Below w3.heap.size w3 w4 := by rw [hw4]; exact below1 w3 _
    have hb4 : Below w2.heap.size w2 w4 := hb.trans (hb34.mono hb.size)
    have K4 := Lib.hid hb4
    have U4 : Hid (Box3 w4 w3.heap.size 32 (.slice b0 O.length l0) (.slice b1 zss.length l1) (.slice b2 Q.length l2)) := by rw [hw4]; exact Box3.new _ _ _ _ _
    have X4 := Lib.hid (hx.below hb34).at
    have B4 := Lib.hid (B2.out.trans (hb4.mono B2.out.size))
    clear c0 c1 c2
    have c0 := (T2.out.below hb4).c0
    have c1 := (T2.out.below hb4).c1
    have c2 := (T2.out.below hb4).c2
    rw [hw4] at c0 c1 c2
    clear hb hb4 hb34 hx hw4
    go_wp2_with fail
    rw [← HW4.out]
    refine (specParityOk_is HPb.out (A2.out.below K4.out)).mono ?_
    rintro e w5 ⟨rfl, hb⟩
    have B5 := Lib.hid (B4.out.trans (hb.mono B4.out.size))
    have T5 := Lib.hid (T2.out.below (K4.out.trans (hb.mono K4.out.size)))
    have A5 := Lib.hid (A2.out.below (K4.out.trans (hb.mono K4.out.size)))
    have U5 := Lib.hid (U4.out.below hb)
    have X5 := Lib.hid (X4.out.below hb)
    clear hb c0 c1 c2 K4 U4 X4 T2 A2 B4 B2
    have Kd : Hid (Below w5.heap.size w5 w5.drew) := (Below.refl _ _).drew
    have c0 := T5.out.c0
    have c1 := T5.out.c1
    have c2 := T5.out.c2
    have d0 := U5.out.c0
    have d1 := U5.out.c1
    have d2 := U5.out.c2
    have tokA : True := trivial
    have tokB : True := trivial
    have HSs := Lib.hid (samePB_self HQb.out)
    have HP1 : Hid (pressO O zss P = O ∧ pressN O zss P = zss ∧ pressV O zss P = Q) := by
      unfold pressO pressN pressV
      rw [HPb.out]; exact ⟨by simp, by simp, by rw [HQ.out]; simp⟩
    have HP2 : Hid (pressO O zss Q = O ∧ pressN O zss Q = zss ∧ pressV O zss Q = Q) := by
      unfold pressO pressN pressV
      rw [HQb.out]; exact ⟨by simp, by simp, by rw [HQ.out, press_twice HPB.out]; simp⟩
    go_wp2_with fail
    go_region_held3 (fun w' => w'.cell? ⟨w1.heap.size, 0, none⟩ = some (.slice a0 O.length k0) ∧ w'.cell? ⟨w1.heap.size, 1, none⟩ = some (.slice a1 zss.length k1) ∧ w'.cell? ⟨w1.heap.size, 2, none⟩ = some (.slice a2 P.length k2) ∧
        w'.cell? ⟨w3.heap.size, 0, none⟩ = some (.slice b0 O.length l0) ∧ w'.cell? ⟨w3.heap.size, 1, none⟩ = some (.slice b1 zss.length l1) ∧ w'.cell? ⟨w3.heap.size, 2, none⟩ = some (.slice b2 Q.length l2))
      (first
        | go_keep
        | exact ⟨e0, e1, e2, e3, e4, e5⟩
        | exact ⟨f0, f1, f2, f3, f4, f5⟩
        | exact ⟨h0, h1, h2, h3, h4, h5⟩
        | exact ⟨i0, i1, i2, i3, i4, i5⟩)
      (first
        | (go_at_call 27; refine (specPressed_is HP1.out (A5.out.below Kd.out)).mono ?_; rintro e w6 ⟨x, rfl, hx, hb⟩; obtain ⟨r0, q0, r1, q1, r2, q2, hvs⟩ := hx.shape; subst hvs; have Y6 := Lib.hid hx.at; have K6 := Lib.hid (Kd.out.trans (hb.mono Kd.out.size)); have e0 := (T5.out.below K6.out).c0; have e1 := (T5.out.below K6.out).c1; have e2 := (T5.out.below K6.out).c2; have e3 := (U5.out.below K6.out).c0; have e4 := (U5.out.below K6.out).c1; have e5 := (U5.out.below K6.out).c2; clear hx hb)
        | (go_at_call 26; refine (specSameParity_is HSs.out (X5.out.below K6.out) Y6.out).mono ?_; rintro e w7 ⟨rfl, hb⟩; have K7 := Lib.hid (K6.out.trans (hb.mono K6.out.size)); have f0 := (T5.out.below K7.out).c0; have f1 := (T5.out.below K7.out).c1; have f2 := (T5.out.below K7.out).c2; have f3 := (U5.out.below K7.out).c0; have f4 := (U5.out.below K7.out).c1; have f5 := (U5.out.below K7.out).c2; clear hb)
        | (go_at_call 18; refine (Pressed_is HP2.out (X5.out.below K7.out)).mono ?_; rintro e w8 ⟨x, rfl, hx, hb⟩; obtain ⟨m0, n0, m1, n1, m2, n2, hvs⟩ := hx.shape; subst hvs; have Y8 := Lib.hid hx.at; have K8 := Lib.hid (K7.out.trans (hb.mono K7.out.size)); have h0 := (T5.out.below K8.out).c0; have h1 := (T5.out.below K8.out).c1; have h2 := (T5.out.below K8.out).c2; have h3 := (U5.out.below K8.out).c0; have h4 := (U5.out.below K8.out).c1; have h5 := (U5.out.below K8.out).c2; clear hx hb)
        | (go_at_call 28; refine (SameParity_is HSs.out Y8.out (X5.out.below K8.out)).mono ?_; rintro e w9 ⟨rfl, hb⟩; have K9 := Lib.hid (K8.out.trans (hb.mono K8.out.size)); have i0 := (T5.out.below K9.out).c0; have i1 := (T5.out.below K9.out).c1; have i2 := (T5.out.below K9.out).c2; have i3 := (U5.out.below K9.out).c0; have i4 := (U5.out.below K9.out).c1; have i5 := (U5.out.below K9.out).c2; clear hb))
    clear c0 c1 c2 d0 d1 d2 e0 e1 e2 e3 e4 e5 f0 f1 f2 f3 f4 f5 h0 h1 h2 h3 h4 h5 i0 i1 i2 i3 i4 i5 tokA tokB
    have AP : Hid (IntsV w9 (.slice a2 P.length k2) P) := by
      obtain ⟨_, _, _, _, _, _, _, _, hv, _, _, h3⟩ := A5.out.below K9.out
      cases hv
      exact ⟨_, _, rfl, h3⟩
    have AQ : Hid (IntsV w9 (.slice b2 Q.length l2) Q) := by
      obtain ⟨_, _, _, _, _, _, _, _, hv, _, _, h3⟩ := X5.out.below K9.out
      cases hv
      exact ⟨_, _, rfl, h3⟩
    have T9 := Lib.hid (T5.out.below K9.out)
    have U9 := Lib.hid (U5.out.below K9.out)
    have B9 := Lib.hid (B5.out.trans (K9.out.mono B5.out.size))
    have HKP : Hid (∀ v, v < P.length → nth Q v % 2 = nth P v % 2 ∧ 0 ≤ nth Q v ∧ nth Q v ≤ nth P v) := by rw [HQ.out]; exact fun v hv => press_keeps HPB.out hv
    have HKO : Hid (∀ u v, u < P.length → v < P.length → nth P u ≤ nth P v → nth Q u ≤ nth Q v) := by rw [HQ.out]; exact fun u v hu hv h => press_order hu hv h
    clear HP1 HP2 HSs Y6 Y8 K6 K7 K8 K9 Kd A5 X5 T5 U5 B5 HPr HQb HQ HW2 HW4
    go_wp2
    go_loopw [5] (fun v wr => ∃ k : Nat, k ≤ P.length ∧ v = .int .i64 k ∧ Hid (Below w9.heap.size w9 wr)) (fun v _ => P.length - (intOf v).toNat)
    case atStart => exact ⟨0, Nat.zero_le _, rfl, Below.refl _ _⟩
    case round =>
      obtain ⟨k, hk, rfl, HK⟩ := hrel
      have t2 := (T9.out.below HK.out).c2
      by_cases hlt : k < P.length
      · have hi1 : (k : Int) < P.length := by omega
        have hi2 : (k : Int) < Q.length := by have := HLQ.out; omega
        have hk0 : (0 : Int) ≤ (k : Int) := by omega
        have u2 := (U9.out.below HK.out).c2
        obtain ⟨pb, po, hpa, hpc⟩ := (AP.out.below HK.out).at.cell (by omega)
        obtain ⟨qb, qo, hqa, hqc⟩ := (AQ.out.below HK.out).at.cell (by have := HLQ.out; omega)
        have p1 := hpc k hlt
        have q1 := hqc k (by have := HLQ.out; omega)
        obtain ⟨x, hx⟩ : ∃ x, x = nth P k := ⟨_, rfl⟩
        obtain ⟨y, hy⟩ : ∃ y, y = nth Q k := ⟨_, rfl⟩
        have hxy := HKP.out k hlt
        have hxb := HPB.out _ (nth_mem hlt)
        rw [← hx] at p1 hxy hxb
        rw [← hy] at q1 hxy
        obtain ⟨hxy0, hxy1, hxy2⟩ := hxy
        have hm : (y.tmod 2 != x.tmod 2) = false := by
          rw [Int.tmod_eq_emod_of_nonneg hxy1, Int.tmod_eq_emod_of_nonneg hxb.1, hxy0]; simp
        have hm2 : (y % 2 != x % 2) = false := by rw [hxy0]; simp
        have ht1 : y.tmod 2 = y % 2 := Int.tmod_eq_emod_of_nonneg hxy1
        have ht2 : x.tmod 2 = x % 2 := Int.tmod_eq_emod_of_nonneg hxb.1
        have hgt : ¬ x < y := by omega
        have hgd : decide (x < y) = false := by simp; omega
        have HX := Lib.hid hx
        have HYv := Lib.hid hy
        subst hpa
        subst hqa
        clear hpc hqc hx hy hxb hxy0
        go_wp2
        go_quiet (fail)
        obtain ⟨wx, hwx⟩ : ∃ y, y = wr.drewN nq := ⟨_, rfl⟩
        have hbx : Below wr.heap.size wr wx := by rw [hwx]; exact below_drewN (Below.refl _ _) nq
        rw [← hwx]
        have Kx := Lib.hid (HK.out.trans (hbx.mono HK.out.size))
        clear hwx hbx t2 u2 p1 q1 hm hm2 ht1 ht2 hgt hgd
        go_wp2
        go_loopw [6] (fun v wv => ∃ j : Nat, j ≤ P.length ∧ v = .int .i64 j ∧ Hid (Below w9.heap.size w9 wv)) (fun v _ => P.length - (intOf v).toNat)
        case atStart => exact ⟨0, Nat.zero_le _, rfl, Kx⟩
        case round =>
          clear Kx HK
          obtain ⟨j, hj, rfl, HK⟩ := hrel
          have t2 := (T9.out.below HK.out).c2
          by_cases hjt : j < P.length
          · have hj1 : (j : Int) < P.length := by omega
            have hj2 : (j : Int) < Q.length := by have := HLQ.out; omega
            have hj0 : (0 : Int) ≤ (j : Int) := by omega
            have u2 := (U9.out.below HK.out).c2
            obtain ⟨pb, po, hpa, hpc⟩ := (AP.out.below HK.out).at.cell (by omega)
            obtain ⟨qb, qo, hqa, hqc⟩ := (AQ.out.below HK.out).at.cell (by have := HLQ.out; omega)
            have p1 := hpc k hlt
            have q1 := hqc k (by have := HLQ.out; omega)
            have p2 := hpc j hjt
            have q2 := hqc j (by have := HLQ.out; omega)
            have ho := HKO.out k j hlt hjt
            rw [← HX.out] at p1 ho
            rw [← HYv.out] at q1 ho
            obtain ⟨x2, hx2⟩ : ∃ x, x = nth P j := ⟨_, rfl⟩
            obtain ⟨y2, hy2⟩ : ∃ y, y = nth Q j := ⟨_, rfl⟩
            rw [← hx2] at p2 ho
            rw [← hy2] at q2 ho
            cases hpa
            cases hqa
            clear hpc hqc hx2 hy2
            by_cases hl : x < x2
            · have hg : ¬ y2 < y := by have := ho (by omega); omega
              have hgd : decide (y2 < y) = false := by simp; omega
              have hld : decide (x < x2) = true := by simp; omega
              clear ho
              go_wp2
              go_quiet (fail)
              obtain ⟨wx, hwx⟩ : ∃ y, y = wr.drewN nq := ⟨_, rfl⟩
              have hbx : Below wr.heap.size wr wx := by rw [hwx]; exact below_drewN (Below.refl _ _) nq
              rw [← hwx]
              have Kx := Lib.hid (HK.out.trans (hbx.mono HK.out.size))
              clear hwx hbx t2 u2 p1 q1 p2 q2
              go_wp2
              go_roundw
              case rel => exact ⟨j + 1, by omega, by go_num, Kx⟩
              case measure => simp [intOf]; omega
            · have hld : decide (x < x2) = false := by simp; omega
              clear ho
              go_wp2
              go_quiet (fail)
              obtain ⟨wx, hwx⟩ : ∃ y, y = wr.drewN nq := ⟨_, rfl⟩
              have hbx : Below wr.heap.size wr wx := by rw [hwx]; exact below_drewN (Below.refl _ _) nq
              rw [← hwx]
              have Kx := Lib.hid (HK.out.trans (hbx.mono HK.out.size))
              clear hwx hbx t2 u2 p1 q1 p2 q2
              go_wp2
              go_roundw
              case rel => exact ⟨j + 1, by omega, by go_num, Kx⟩
              case measure => simp [intOf]; omega
          · have hj1 : ¬ (j : Int) < P.length := by omega
            go_wp2
            clear t2
            go_roundw
            case rel => exact ⟨k + 1, by omega, by go_num, HK⟩
            case measure => simp [intOf]; omega
      · have hi1 : ¬ (k : Int) < P.length := by omega
        go_wp2
        go_ret
        exact ⟨rfl, B9.out.trans (HK.out.mono B9.out.size)⟩

end Go.Proofs.Ytmobegiojhlakaa
