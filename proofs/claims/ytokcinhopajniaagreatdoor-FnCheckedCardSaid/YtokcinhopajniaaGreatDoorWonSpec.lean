/-
  Contract of chapter 5: the model's PlayWon.
-/
import Derived.Test.YtokcinhopajniaaGreatDoorLassoSpec
import Derived.Test.YtokcinhopajniaaGreatDoorWonMath
import Derived.Test.YtokcinhopajniaaGreatDoorParity1
namespace Go.Proofs.YtokcinhopajniaaGreatDoor
open Go.RowKit

set_option maxHeartbeats 8000000 in
set_option maxRecDepth 100000 in
theorem specPlayWon_is {w : World} {v vl : Value} {O P X Y : List Int} {zss : List (List Int)} {r : Int} (hr : wonV O zss P X Y = r) (h : GameAt w v O zss P) (hl : LassoAt w vl X Y) :
    Calls Tryz.prog 21 #[v, vl] w fun e w' => e = .returned (.int .i64 r) ∧ Below w.heap.size w w' := by
  have HGm := Lib.hid h
  have HLm := Lib.hid hl
  obtain ⟨ao, an, ap, co, cn, cp, A, C, rfl, h1, h2, h3⟩ := h
  obtain ⟨ax, ay, cx, cy, rfl, hX, hY⟩ := hl
  have HAt : Hid (ArenaAt w (.agg #[.slice ao O.length co, .slice an zss.length cn]) O zss) := ⟨_, _, _, _, _, _, rfl, h1, h2⟩
  have hlP := h3.len
  have hlY := hY.len
  have HPi := Lib.hid h3
  have HYi := Lib.hid hY
  obtain ⟨w1, hw1⟩ : ∃ y, y = (w.alloc (.cells #[.slice ao O.length co, .slice an zss.length cn, .slice ap P.length cp] 32)).alloc (.cells #[.slice ax X.length cx, .slice ay Y.length cy] 41) := ⟨_, rfl⟩
  have HW1 := Lib.hid hw1
  have B1 : Hid (Below w.heap.size w w1) := by rw [hw1]; exact below2 _ _ _
  have T1 : Hid (Box3 w1 w.heap.size 32 (.slice ao O.length co) (.slice an zss.length cn) (.slice ap P.length cp)) := by
    rw [hw1]; exact (Box3.new w 32 (.slice ao O.length co) (.slice an zss.length cn) (.slice ap P.length cp)).below (below1 _ _)
  have R1 : Hid (Box2 w1 (w.heap.size + 1) 41 (.slice ax X.length cx) (.slice ay Y.length cy)) := by rw [hw1]; exact Box2.new_at (by simp) _ _ _
  clear hw1 h1 h2 h3 hX hY
  cases hp : parityB O zss P with
  | false =>
    have HE : Hid (r = -1) := by rw [← hr]; unfold wonV; rw [hp]; simp [Hid]
    have HC := Lib.hid (specParityOk_is hp (HGm.out.below B1.out))
    clear hr hp
    go_enter Tryz.func21, Tryz.ntmps21
    go_wp2_with fail
    rw [← HW1.out]
    refine HC.out.mono ?_
    rintro e w2 ⟨rfl, hb⟩
    have B2 := Lib.hid (B1.out.trans (hb.mono B1.out.size))
    clear hb HC
    go_wp2
    go_ret
    exact ⟨ret_i64 HE.out.symm, B2.out⟩
  | true =>
    have HC := Lib.hid (specParityOk_is hp (HGm.out.below B1.out))
    cases hq : lassoB O zss X Y with
    | false =>
      have HE : Hid (r = -1) := by rw [← hr]; unfold wonV; rw [hq]; simp [Hid]
      have HQ := Lib.hid hq
      clear hr hp hq
      go_enter Tryz.func21, Tryz.ntmps21
      go_wp2_with fail
      rw [← HW1.out]
      refine HC.out.mono ?_
      rintro e w2 ⟨rfl, hb⟩
      have B2 := Lib.hid (B1.out.trans (hb.mono B1.out.size))
      have T2 := Lib.hid (T1.out.below hb)
      have R2 := Lib.hid (R1.out.below hb)
      have t0 := T2.out.c0
      have t1 := T2.out.c1
      have r0 := R2.out.cell0
      have r1 := R2.out.cell1
      clear hb HC
      go_wp2_with fail
      refine (specLassoOk_is HQ.out (HAt.out.below B2.out) (HLm.out.below B2.out)).mono ?_
      rintro e w3 ⟨rfl, hb⟩
      have B3 := Lib.hid (B2.out.trans (hb.mono B2.out.size))
      clear hb t0 t1 r0 r1
      go_wp2
      go_ret
      exact ⟨ret_i64 HE.out.symm, B3.out⟩
    | true =>
      have HE : Hid (top0 P Y Y.length % 2 = r) := by rw [← hr]; unfold wonV; rw [hp, hq]; simp [Hid]
      have HQ := Lib.hid hq
      have HPL : Hid (P.length = O.length) := (parityB_iff.1 hp).2.1
      have HIN : Hid (∀ x ∈ Y, ∃ u : Nat, x = (u : Int) ∧ u < P.length) := by rw [HPL.out]; exact lasso_loop hq
      have HY256 : Hid (Y.length ≤ 256) := (lassoB_iff.1 hq).2.2.2.1
      have HTB : Hid (∀ k, k ≤ Y.length → 0 ≤ top0 P Y k) := fun k hk => (top0_k k fun j hj => by
        obtain ⟨u, hu, hup⟩ := HIN.out _ (nth_mem (show j < Y.length by omega))
        rw [hu, Int.toNat_natCast]
        exact ((parityB_iff.1 hp).2.2 _ (nth_mem hup)).1).1
      clear hr hp hq
      go_enter Tryz.func21, Tryz.ntmps21
      go_wp2_with fail
      rw [← HW1.out]
      refine HC.out.mono ?_
      rintro e w2 ⟨rfl, hb⟩
      have B2 := Lib.hid (B1.out.trans (hb.mono B1.out.size))
      have T2 := Lib.hid (T1.out.below hb)
      have R2 := Lib.hid (R1.out.below hb)
      have t0 := T2.out.c0
      have t1 := T2.out.c1
      have r0 := R2.out.cell0
      have r1 := R2.out.cell1
      clear hb HC
      go_wp2_with fail
      refine (specLassoOk_is HQ.out (HAt.out.below B2.out) (HLm.out.below B2.out)).mono ?_
      rintro e w3 ⟨rfl, hb⟩
      have B3 := Lib.hid (B2.out.trans (hb.mono B2.out.size))
      have T3 := Lib.hid (T2.out.below hb)
      have R3 := Lib.hid (R2.out.below hb)
      have K3 := Lib.hid (Below.refl w3.heap.size w3)
      clear hb t0 t1 r0 r1
      go_wp2
      go_loopw [5, 6] (fun tv iv wr => ∃ k : Nat, k ≤ Y.length ∧ iv = .int .i64 k ∧ tv = .int .i64 (top0 P Y k) ∧ Hid (Below w3.heap.size w3 wr)) (fun _ iv _ => Y.length - (intOf iv).toNat)
      case atStart => exact ⟨0, Nat.zero_le _, rfl, rfl, K3⟩
      case round =>
        clear K3
        obtain ⟨k, hk, rfl, rfl, HK⟩ := hrel
        have r1 := (R3.out.below HK.out).cell1
        by_cases hlt : k < Y.length
        · have hi1 : (k : Int) < Y.length := by omega
          have hk0 : (0 : Int) ≤ (k : Int) := by omega
          obtain ⟨u, hu, hup⟩ := HIN.out _ (nth_mem hlt)
          have HBW : Hid (∀ W', Below wr.heap.size wr W' → Below w.heap.size w W') := fun W' hb => (B3.out.trans (HK.out.mono B3.out.size)).trans (hb.mono (by have := B3.out.size; have := HK.out.size; omega))
          obtain ⟨ib, io, hia, hic⟩ := (HYi.out.below (HBW.out _ (Below.refl _ _))).cell (by omega)
          obtain ⟨pb, po, hpa, hpc⟩ := (HPi.out.below (HBW.out _ (Below.refl _ _))).cell (by omega)
          have i1 := hic k hlt
          have p1 := hpc u hup
          rw [hu] at i1
          have hu0 : (0 : Int) ≤ (u : Int) := by omega
          have hup1 : (u : Int) < P.length := by omega
          have t2 := (T3.out.below HK.out).c2
          obtain ⟨q, hq⟩ : ∃ q, q = nth P u := ⟨_, rfl⟩
          obtain ⟨m, hm⟩ : ∃ m, m = top0 P Y k := ⟨_, rfl⟩
          have HT : Hid (top0 P Y (k + 1) = if m < q then q else m) := by
            simp only [Hid, top0]
            rw [hu, Int.toNat_natCast, ← hq, ← hm]
          rw [← hq] at p1
          rw [← hm]
          subst hia
          subst hpa
          have HMX := Lib.hid (fun W : World => l4Max_is (x := m) (y := q) HT.out.symm W)
          clear hic hpc hq hm hu
          go_wp2
          go_region_law (first
            | (go_simp; go_at_call 59; refine (HMX.out _).mono ?_; rintro e w' ⟨rfl, rfl⟩))
          all_goals (
            go_wp2
            go_roundw
            case rel => exact ⟨k + 1, by omega, by go_num, rfl, HK.out.trans (Below.refl _ _).drew⟩
            case measure => simp [intOf]; omega)
        · have hi1 : ¬ (k : Int) < Y.length := by omega
          have hkk : k = Y.length := by omega
          subst hkk
          have hfin := Lib.hid (B3.out.trans (HK.out.mono B3.out.size))
          have hb0 := HTB.out _ (Nat.le_refl _)
          obtain ⟨m, hm⟩ : ∃ m, m = top0 P Y Y.length := ⟨_, rfl⟩
          rw [← hm] at HE hb0 ⊢
          clear hm
          go_wp2
          go_ret
          exact ⟨by first | exact ret_i64 HE.out | (rw [HE.out]), hfin.out⟩

end Go.Proofs.YtokcinhopajniaaGreatDoor
