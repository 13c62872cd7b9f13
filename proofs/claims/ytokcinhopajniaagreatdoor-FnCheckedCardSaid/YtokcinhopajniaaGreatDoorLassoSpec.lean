/-
  Contracts of chapter 5: the model's LassoOk.
-/
import Derived.Test.YtokcinhopajniaaGreatDoorLassoMath
import Derived.Test.YtokcinhopajniaaGreatDoorPlanSpec
import Derived.Test.YtokcinhopajniaaGreatDoorLasso
import Derived.Test.YtokcinhopajniaaGreatDoorBase1
import Derived.Deep.RegionHeld3
import Derived.Deep.AppendLies
import Derived.RangeFuncBox
namespace Go.Proofs.YtokcinhopajniaaGreatDoor
open Go.RowKit

set_option linter.unusedSimpArgs false in
set_option maxHeartbeats 16000000 in
set_option maxRecDepth 100000 in
theorem specLassoOk_is {w : World} {va vl : Value} {O X Y : List Int} {zss : List (List Int)} {r : Bool} (hr : lassoB O zss X Y = r) (h : ArenaAt w va O zss) (hl : LassoAt w vl X Y) :
    Calls Tryz.prog 58 #[va, vl] w fun e w' => e = .returned (.bool r) ∧ Below w.heap.size w w' := by
  obtain ⟨i0, hi, hz0, hz1, hz2⟩ := info_parts info_int
  have HAt := Lib.hid h
  obtain ⟨ao, an, co, cn, A, C, rfl, h1, h2⟩ := h
  obtain ⟨ax, ay, cx, cy, rfl, hX, hY⟩ := hl
  have hlO := h1.len
  have hlX := hX.len
  have hlY := hY.len
  have HNi := Lib.hid h2
  have HXi := Lib.hid hX
  have HYi := Lib.hid hY
  obtain ⟨w1, hw1⟩ : ∃ y, y = (w.alloc (.cells #[.slice ao O.length co, .slice an zss.length cn] 30)).alloc (.cells #[.slice ax X.length cx, .slice ay Y.length cy] 41) := ⟨_, rfl⟩
  have HW1 := Lib.hid hw1
  have B1 : Hid (Below w.heap.size w w1) := by rw [hw1]; exact below2 _ _ _
  have hs1 : w1.heap.size = w.heap.size + 1 + 1 := by rw [hw1]; simp
  have HS1 := Lib.hid hs1
  have T1 : Hid (Box2 w1 w.heap.size 30 (.slice ao O.length co) (.slice an zss.length cn)) := by rw [hw1]; exact (Box2.new w _ _ _).alloc _
  have R1 : Hid (Box2 w1 (w.heap.size + 1) 41 (.slice ax X.length cx) (.slice ay Y.length cy)) := by rw [hw1]; exact Box2.new_at (by simp) _ _ _
  clear hw1 h1 h2 hX hY hs1
  cases hA : arenaB O zss with
  | false =>
    have HE : Hid (r = false) := by rw [← hr]; exact lassoB_no fun h => by rw [arenaB_iff.2 h.1] at hA; exact absurd hA (by decide)
    have HC := Lib.hid (specArenaOk_at hA (HAt.out.below B1.out))
    clear hr hA
    go_enter Tryz.func58, Tryz.ntmps58
    go_wp2_with fail
    rw [← HW1.out]
    refine HC.out.mono ?_
    rintro e w2 ⟨rfl, hb⟩
    have B2 := Lib.hid (B1.out.trans (hb.mono B1.out.size))
    clear hb HC
    go_wp2
    go_ret
    exact ⟨ret_bool HE.out.symm, B2.out⟩
  | true =>
    have HC := Lib.hid (specArenaOk_at hA (HAt.out.below B1.out))
    have HAP := Lib.hid (arenaB_iff.1 hA)
    have HRY : Hid ((X.length ≤ 256 ∧ 1 ≤ Y.length ∧ Y.length ≤ 256 ∧ ∀ i, i < (wholeP X Y).length → StepAt O zss (wholeP X Y) i) → r = true) := fun h => by rw [← hr]; exact lassoB_iff.2 ⟨HAP.out, h⟩
    have HRN : Hid (¬ (X.length ≤ 256 ∧ 1 ≤ Y.length ∧ Y.length ≤ 256 ∧ ∀ i, i < (wholeP X Y).length → StepAt O zss (wholeP X Y) i) → r = false) := fun h => by rw [← hr]; exact lassoB_no fun hp => h hp.2
    clear hr hA
    by_cases hx : (256 : Int) < X.length
    · have HE : Hid (r = false) := HRN.out fun h => by omega
      go_enter Tryz.func58, Tryz.ntmps58
      go_wp2_with fail
      rw [← HW1.out]
      refine HC.out.mono ?_
      rintro e w2 ⟨rfl, hb⟩
      have B2 := Lib.hid (B1.out.trans (hb.mono B1.out.size))
      have R2 := Lib.hid (R1.out.below hb)
      have t0 := R2.out.cell0
      clear hb HC
      go_wp2
      go_ret
      exact ⟨ret_bool HE.out.symm, B2.out⟩
    · by_cases hy : (Y.length : Int) < 1
      · have HE : Hid (r = false) := HRN.out fun h => by omega
        go_enter Tryz.func58, Tryz.ntmps58
        go_wp2_with fail
        rw [← HW1.out]
        refine HC.out.mono ?_
        rintro e w2 ⟨rfl, hb⟩
        have B2 := Lib.hid (B1.out.trans (hb.mono B1.out.size))
        have R2 := Lib.hid (R1.out.below hb)
        have t0 := R2.out.cell0
        have t1 := R2.out.cell1
        clear hb HC
        go_wp2
        go_ret
        exact ⟨ret_bool HE.out.symm, B2.out⟩
      · by_cases hz : (256 : Int) < Y.length
        · have HE : Hid (r = false) := HRN.out fun h => by omega
          go_enter Tryz.func58, Tryz.ntmps58
          go_wp2_with fail
          rw [← HW1.out]
          refine HC.out.mono ?_
          rintro e w2 ⟨rfl, hb⟩
          have B2 := Lib.hid (B1.out.trans (hb.mono B1.out.size))
          have R2 := Lib.hid (R1.out.below hb)
          have t0 := R2.out.cell0
          have t1 := R2.out.cell1
          clear hb HC
          go_wp2
          go_ret
          exact ⟨ret_bool HE.out.symm, B2.out⟩
        · have hY0 : (0 : Int) < Y.length := by omega
          have hX256 : X.length ≤ 256 := by omega
          have hY256 : Y.length ≤ 256 := by omega
          have hY1 : 0 < Y.length := by omega
          obtain ⟨yb, yo, hya, -⟩ := HYi.out.cell hY1
          subst hya
          obtain ⟨y0, hy0⟩ : ∃ y0, y0 = nth Y 0 := ⟨_, rfl⟩
          have HY0 := Lib.hid hy0
          have HYc : Hid (∀ W, Below w.heap.size w W → W.cell? ⟨yb, yo, none⟩ = some (.int .i64 y0)) := fun W hb => by
            obtain ⟨b, o, ha, hc⟩ := (HYi.out.below hb).cell hY1
            simp only [Option.some.injEq, Addr.mk.injEq, and_true] at ha
            obtain ⟨rfl, rfl⟩ := ha
            have := hc 0 hY1
            rw [Nat.add_zero] at this
            rw [this, HY0.out]
          have HYn : Hid (∀ W, Below w.heap.size w W → ∀ j u, (Y.map (Value.int .i64))[j]? = some u → W.cell? ((⟨yb, yo, none⟩ : Addr).add j) = some u) := fun W hb => news_of (HYi.out.below hb)
          clear hy0
          go_enter Tryz.func58, Tryz.ntmps58
          go_wp2_with fail
          rw [← HW1.out]
          refine HC.out.mono ?_
          rintro e w2 ⟨rfl, hb⟩
          have B2 := Lib.hid (B1.out.trans (hb.mono B1.out.size))
          have R2 := Lib.hid (R1.out.below hb)
          have T2 := Lib.hid (T1.out.below hb)
          have t0 := R2.out.cell0
          have t1 := R2.out.cell1
          have hsz2 := hb.size
          have hs2 : w.heap.size + 1 + 1 ≤ w2.heap.size := by have := HS1.out; omega
          have HSc : Hid (∀ W, Below w2.heap.size w2 W → W.cell? ⟨w.heap.size + 1, 0, none⟩ = some (.slice ax X.length cx) ∧ W.cell? ⟨w.heap.size + 1, 1, none⟩ = some (.slice (some ⟨yb, yo, none⟩) Y.length cy) ∧ W.cell? ⟨yb, yo, none⟩ = some (.int .i64 y0)) := fun W hb => ⟨(R2.out.below hb).cell0, (R2.out.below hb).cell1, HYc.out _ (B2.out.trans (hb.mono B2.out.size))⟩
          have HCp : Hid (∀ W, Below w2.heap.size w2 W → Calls Tryz.prog 56 #[.slice ax X.length cx] W (GivesInts W X)) := fun W hb => l1Copy_is cx (HXi.out.below (B2.out.trans (hb.mono B2.out.size)))
          have HYw : Hid (∀ W, Below w2.heap.size w2 W → ∀ j u, (Y.map (Value.int .i64))[j]? = some u → W.cell? ((⟨yb, yo, none⟩ : Addr).add j) = some u) := fun W hb => HYn.out _ (B2.out.trans (hb.mono B2.out.size))
          have HYl : Hid ((Y.map (Value.int .i64)).length = Y.length * 1) := by show _ = _; simp
          have Kd : Hid (Below w2.heap.size w2 w2.drew) := (Below.refl _ _).drew
          have hds : w2.drew.heap.size = w2.heap.size := rfl
          have s0 := (HSc.out _ Kd.out)
          clear hb HC hsz2
          go_wp2
          rename_i Q1 hg1 K1 hK1
          have HJ : ∀ (nb : Nat) (xa : Option Addr) (xc g7 cap7 ob g8 cap8 : Nat) (w8 : World), Hid (w8.ownsRow nb 2 1 (.slice (some ⟨g8, 0, none⟩) (X.length + Y.length + 1) cap8) (X.length + Y.length + 1) (X.map (Value.int .i64) ++ Y.map (Value.int .i64) ++ [.int .i64 y0])) → Hid (Below w2.heap.size w2 w8) →
              Exit.then K1 Q1 .normal { tmps := List.toArray ((Value.agg #[.slice ao O.length co, .slice an zss.length cn]) :: (Value.agg #[.slice ax X.length cx, .slice (some ⟨yb, yo, none⟩) Y.length cy]) :: (Value.pointer (some ⟨w.heap.size, 0, none⟩)) :: (Value.pointer (some ⟨w.heap.size + 1, 0, none⟩)) :: (Value.bool false) :: (Value.slice (some ⟨g8, 0, none⟩) (X.length + Y.length + 1) cap8) :: undef :: (Value.agg #[.slice ao O.length co, .slice an zss.length cn]) :: (Value.bool true) :: (Value.bool false) :: (Value.bool false) :: (Value.pointer (some ⟨w.heap.size + 1, 0, none⟩)) :: (Value.slice ax X.length cx) :: (Value.int .i64 X.length) :: (Value.bool (decide ((256 : Int) < (X.length : Int)))) :: (Value.bool (decide ((256 : Int) < (X.length : Int)))) :: (Value.bool (decide ((256 : Int) < (X.length : Int)))) :: (Value.pointer (some ⟨w.heap.size + 1, 1, none⟩)) :: (Value.slice (some ⟨yb, yo, none⟩) Y.length cy) :: (Value.int .i64 Y.length) :: (Value.bool (decide ((Y.length : Int) < 1))) :: (Value.bool (decide ((256 : Int) < (X.length : Int)) || decide ((Y.length : Int) < 1))) :: (Value.bool (decide ((256 : Int) < (X.length : Int)) || decide ((Y.length : Int) < 1))) :: (Value.pointer (some ⟨w.heap.size + 1, 1, none⟩)) :: (Value.slice (some ⟨yb, yo, none⟩) Y.length cy) :: (Value.int .i64 Y.length) :: (Value.bool (decide ((256 : Int) < (Y.length : Int)))) :: (Value.bool (decide ((256 : Int) < (X.length : Int)) || decide ((Y.length : Int) < 1) || decide ((256 : Int) < (Y.length : Int)))) :: (Value.pointer (some ⟨w.heap.size + 1, 0, none⟩)) :: (Value.slice ax X.length cx) :: (Value.slice xa X.length xc) :: (Value.pointer (some ⟨w.heap.size + 1, 1, none⟩)) :: (Value.slice (some ⟨yb, yo, none⟩) Y.length cy) :: (Value.slice (some ⟨g7, 0, none⟩) (X.length + Y.length) cap7) :: (Value.pointer (some ⟨w.heap.size + 1, 1, none⟩)) :: (Value.slice (some ⟨yb, yo, none⟩) Y.length cy) :: (Value.pointer (some ⟨yb, yo, none⟩)) :: (Value.int .i64 y0) :: (Value.slice (some ⟨ob, 0, none⟩) 1 1) :: (Value.slice (some ⟨g8, 0, none⟩) (X.length + Y.length + 1) cap8) :: undef :: undef :: undef :: undef :: undef :: undef :: undef :: undef :: undef :: undef :: undef :: undef :: undef :: undef :: undef :: undef :: undef :: undef :: undef :: undef :: undef :: undef :: undef :: undef :: undef :: undef :: undef :: undef :: undef :: undef :: undef :: undef :: undef :: undef :: []), defers := [] } w8 := by
            intro nb xa xc g7 cap7 ob g8 cap8 w8 O8 Kf
            obtain ⟨L, hL⟩ : ∃ L, L = wholeP X Y := ⟨_, rfl⟩
            have HLe := Lib.hid hL
            have hll : L.length = X.length + Y.length + 1 := by rw [hL, wholeP_len]
            have hmap : (X.map (Value.int .i64) ++ Y.map (Value.int .i64)) ++ [.int .i64 y0] = L.map (Value.int .i64) := by rw [hL]; unfold wholeP; rw [HY0.out]; simp
            have HLi : Hid (IntsAt w8 (some ⟨g8, 0, none⟩) L) := by
              have ho := O8.out
              rw [hmap, ← hll] at ho
              have hf : ∀ k, k < L.length → Fits (nth L k) := by rw [hL]; exact wholeP_fits HXi.out.fits HYi.out.fits hY1
              obtain ⟨a, cap, hv, hI, _⟩ := (OwnInts.mk' ho (by omega) hf).shape
              simp only [Value.slice.injEq] at hv
              obtain ⟨rfl, -, -⟩ := hv
              exact hI
            have HLL := Lib.hid hll
            have B8 := Lib.hid (B2.out.trans (Kf.out.mono B2.out.size))
            have T8 := Lib.hid (T2.out.below Kf.out)
            have hl0 : L.length ≤ 1048576 := by omega
            rw [show X.length + Y.length + 1 = L.length from hll.symm]
            clear O8 hmap hll hL Kf t0 t1 s0 HSc HCp HYw HYl HYc HYn Kd hds
            go_wp2
            go_loopw [6] (fun iv wr => ∃ k : Nat, k ≤ L.length ∧ iv = .int .i64 k ∧ Hid (∀ j, j < k → StepAt O zss L j) ∧ Hid (Below w8.heap.size w8 wr)) (fun iv _ => L.length - (intOf iv).toNat)
            case atStart => exact ⟨0, Nat.zero_le _, rfl, fun j hj => absurd hj (Nat.not_lt_zero _), Below.refl _ _⟩
            case round =>
              obtain ⟨k, hk, rfl, HJ, HK⟩ := hrel
              have Bw := Lib.hid (B8.out.trans (HK.out.mono B8.out.size))
              by_cases hlt : k < L.length
              · have hi1 : (k : Int) < L.length := by omega
                have hk0 : (0 : Int) ≤ (k : Int) := by omega
                have HLc : Hid (∀ W, Below wr.heap.size wr W → ∀ j, j < L.length → W.cell? ⟨g8, j, none⟩ = some (.int .i64 (nth L j))) := fun W hb j hj => by
                  obtain ⟨b, o, ha, hc⟩ := (HLi.out.below (HK.out.trans (hb.mono HK.out.size))).cell (by omega)
                  simp only [Option.some.injEq, Addr.mk.injEq, and_true] at ha
                  obtain ⟨rfl, rfl⟩ := ha
                  have := hc j hj
                  rw [Nat.zero_add] at this
                  exact this
                have Kd : Hid (Below wr.heap.size wr wr.drew) := (Below.refl _ _).drew
                have K0 : Hid (Below wr.heap.size wr wr) := Below.refl _ _
                have Tw := Lib.hid (T8.out.below HK.out)
                have t0 := Tw.out.cell0
                have t1 := Tw.out.cell1
                obtain ⟨q, hq⟩ : ∃ q, q = nth L k := ⟨_, rfl⟩
                have HQ := Lib.hid hq
                have p1 := HLc.out _ K0.out k hlt
                rw [← hq] at p1
                cases ht : thereB O.length q with
                | false =>
                  have HE : Hid (r = false) := HRN.out fun h => by
                    have := (h.2.2.2 k (by rw [← HLe.out]; exact hlt)).1
                    rw [← HLe.out, ← HQ.out, ht] at this
                    exact absurd this (by decide)
                  have HTc : Hid (∀ W, Below wr.heap.size wr W → Calls Tryz.prog 53 #[.agg #[.slice ao O.length co, .slice an zss.length cn], .int .i64 q] W fun e w' => e = .returned (.bool false) ∧ Below W.heap.size W w') := fun W hb => l1There_is ht (HAt.out.below (Bw.out.trans (hb.mono Bw.out.size)))
                  clear ht hq
                  go_wp2
                  have HSw : Hid (∀ W, Below wr.heap.size wr W → W.cell? ⟨w.heap.size, 0, none⟩ = some (.slice ao O.length co) ∧ W.cell? ⟨w.heap.size, 1, none⟩ = some (.slice an zss.length cn) ∧ W.cell? ⟨g8, k, none⟩ = some (.int .i64 q)) := fun W hb => ⟨(Tw.out.below hb).cell0, (Tw.out.below hb).cell1, by rw [HLc.out _ hb k hlt, HQ.out]⟩
                  refine wp_region_held_drew (S := (fun W => W.cell? ⟨w.heap.size, 0, none⟩ = some (.slice ao O.length co) ∧ W.cell? ⟨w.heap.size, 1, none⟩ = some (.slice an zss.length cn) ∧ W.cell? ⟨g8, k, none⟩ = some (.int .i64 q))) (by kernel_rfl) (HSw.out _ Kd.out) (fun hHeld => ?_)
                  refine wpAnyH_take (i := 0) (v := ?v0) rfl (by kernel_rfl) (by kernel_rfl) (by kernel_rfl) (fun _ _ _ h => h) (Or.inl ⟨by rfl, ?hy0⟩) (by assumption) ?_
                  case hy0 => (intro w hSw; (try dsimp only at hSw); go_simp; first | done | with_reducible rfl)
                  simp only [Act.put, List.getElem_toArray, List.getElem_cons_succ, List.getElem_cons_zero, List.setIfInBounds_toArray, List.set_cons_zero, List.set_cons_succ]
                  refine wpAnyH_take (i := 1) (v := ?v1) rfl (by kernel_rfl) (by kernel_rfl) (by kernel_rfl) (fun _ _ _ h => h) (Or.inl ⟨by rfl, ?hy1⟩) (by assumption) ?_
                  case hy1 => (intro w hSw; (try dsimp only at hSw); go_simp; first | done | with_reducible rfl)
                  simp only [Act.put, List.getElem_toArray, List.getElem_cons_succ, List.getElem_cons_zero, List.setIfInBounds_toArray, List.set_cons_zero, List.set_cons_succ]
                  refine wpAnyH_take (i := 2) (v := ?v2) rfl (by kernel_rfl) (by kernel_rfl) (by kernel_rfl) (fun _ _ _ h => h) (Or.inl ⟨by rfl, ?hy2⟩) (by assumption) ?_
                  case hy2 => (intro w hSw; (try dsimp only at hSw); go_simp; first | done | with_reducible rfl)
                  simp only [Act.put, List.getElem_toArray, List.getElem_cons_succ, List.getElem_cons_zero, List.setIfInBounds_toArray, List.set_cons_zero, List.set_cons_succ]
                  refine wpAnyH_take (i := 3) (v := ?v3) rfl (by kernel_rfl) (by kernel_rfl) (by kernel_rfl) (fun _ _ _ h => h) (Or.inl ⟨by rfl, ?hy3⟩) (by assumption) ?_
                  case hy3 => (intro w hSw; (try dsimp only at hSw); go_simp; first | done | with_reducible rfl)
                  simp only [Act.put, List.getElem_toArray, List.getElem_cons_succ, List.getElem_cons_zero, List.setIfInBounds_toArray, List.set_cons_zero, List.set_cons_succ]
                  refine wpAnyH_take (i := 4) (v := ?v4) rfl (by kernel_rfl) (by kernel_rfl) (by kernel_rfl) (fun _ _ _ h => h) (Or.inl ⟨by rfl, ?hy4⟩) (by assumption) ?_
                  case hy4 => (intro w hSw; (try dsimp only at hSw); go_simp; first | done | with_reducible rfl)
                  simp only [Act.put, List.getElem_toArray, List.getElem_cons_succ, List.getElem_cons_zero, List.setIfInBounds_toArray, List.set_cons_zero, List.set_cons_succ]
                  refine wpAnyH_ready (rs := [5]) (by kernel_rfl) (by simp) (AllReadyH.cons rfl (fun K hK => ?_) AllReadyH.nil)
                  go_simp
                  go_at_call 53
                  refine (HTc.out _ Kd.out).mono ?_
                  rintro e wt ⟨rfl, hb⟩
                  have Kt := Lib.hid (Kd.out.trans (hb.mono Kd.out.size))
                  clear hb
                  go_wp2_with fail
                  refine hK.out _ _ (HSw.out _ Kt.out) (fun hHeld => ?_)
                  clear hK K
                  try simp only [Act.put, List.getElem_toArray, List.getElem_cons_succ, List.getElem_cons_zero, List.setIfInBounds_toArray, List.set_cons_zero, List.set_cons_succ]
                  refine wpAnyH_take (i := 6) (v := ?v6) rfl (by kernel_rfl) (by kernel_rfl) (by kernel_rfl) (fun _ _ _ h => h) (Or.inl ⟨by rfl, ?hy6⟩) (by assumption) ?_
                  case hy6 => (intro w hSw; (try dsimp only at hSw); go_simp; first | done | with_reducible rfl)
                  simp only [Act.put, List.getElem_toArray, List.getElem_cons_succ, List.getElem_cons_zero, List.setIfInBounds_toArray, List.set_cons_zero, List.set_cons_succ]
                  refine wpAnyH_take (i := 7) (v := ?v7) rfl (by kernel_rfl) (by kernel_rfl) (by kernel_rfl) (fun _ _ _ h => h) (Or.inl ⟨by rfl, ?hy7⟩) (by assumption) ?_
                  case hy7 => (intro w hSw; (try dsimp only at hSw); go_simp; first | done | with_reducible rfl)
                  simp only [Act.put, List.getElem_toArray, List.getElem_cons_succ, List.getElem_cons_zero, List.setIfInBounds_toArray, List.set_cons_zero, List.set_cons_succ]
                  refine wpAnyH_take (i := 8) (v := undef) rfl (by kernel_rfl) (by kernel_rfl) (by kernel_rfl) (fun _ _ _ h => h) (Or.inr ⟨by rfl, rfl⟩) (by assumption) ?_
                  simp only [Act.put, List.getElem_toArray, List.getElem_cons_succ, List.getElem_cons_zero, List.setIfInBounds_toArray, List.set_cons_zero, List.set_cons_succ]
                  refine wpAnyH_take (i := 9) (v := undef) rfl (by kernel_rfl) (by kernel_rfl) (by kernel_rfl) (fun _ _ _ h => h) (Or.inr ⟨by rfl, rfl⟩) (by assumption) ?_
                  simp only [Act.put, List.getElem_toArray, List.getElem_cons_succ, List.getElem_cons_zero, List.setIfInBounds_toArray, List.set_cons_zero, List.set_cons_succ]
                  refine wpAnyH_take (i := 10) (v := undef) rfl (by kernel_rfl) (by kernel_rfl) (by kernel_rfl) (fun _ _ _ h => h) (Or.inr ⟨by rfl, rfl⟩) (by assumption) ?_
                  simp only [Act.put, List.getElem_toArray, List.getElem_cons_succ, List.getElem_cons_zero, List.setIfInBounds_toArray, List.set_cons_zero, List.set_cons_succ]
                  refine wpAnyH_take (i := 11) (v := undef) rfl (by kernel_rfl) (by kernel_rfl) (by kernel_rfl) (fun _ _ _ h => h) (Or.inr ⟨by rfl, rfl⟩) (by assumption) ?_
                  simp only [Act.put, List.getElem_toArray, List.getElem_cons_succ, List.getElem_cons_zero, List.setIfInBounds_toArray, List.set_cons_zero, List.set_cons_succ]
                  refine wpAnyH_take (i := 12) (v := undef) rfl (by kernel_rfl) (by kernel_rfl) (by kernel_rfl) (fun _ _ _ h => h) (Or.inr ⟨by rfl, rfl⟩) (by assumption) ?_
                  simp only [Act.put, List.getElem_toArray, List.getElem_cons_succ, List.getElem_cons_zero, List.setIfInBounds_toArray, List.set_cons_zero, List.set_cons_succ]
                  refine wpAnyH_take (i := 13) (v := undef) rfl (by kernel_rfl) (by kernel_rfl) (by kernel_rfl) (fun _ _ _ h => h) (Or.inr ⟨by rfl, rfl⟩) (by assumption) ?_
                  simp only [Act.put, List.getElem_toArray, List.getElem_cons_succ, List.getElem_cons_zero, List.setIfInBounds_toArray, List.set_cons_zero, List.set_cons_succ]
                  refine wpAnyH_take (i := 14) (v := undef) rfl (by kernel_rfl) (by kernel_rfl) (by kernel_rfl) (fun _ _ _ h => h) (Or.inr ⟨by rfl, rfl⟩) (by assumption) ?_
                  simp only [Act.put, List.getElem_toArray, List.getElem_cons_succ, List.getElem_cons_zero, List.setIfInBounds_toArray, List.set_cons_zero, List.set_cons_succ]
                  refine wpAnyH_take (i := 15) (v := undef) rfl (by kernel_rfl) (by kernel_rfl) (by kernel_rfl) (fun _ _ _ h => h) (Or.inr ⟨by rfl, rfl⟩) (by assumption) ?_
                  simp only [Act.put, List.getElem_toArray, List.getElem_cons_succ, List.getElem_cons_zero, List.setIfInBounds_toArray, List.set_cons_zero, List.set_cons_succ]
                  refine wpAnyH_take (i := 16) (v := undef) rfl (by kernel_rfl) (by kernel_rfl) (by kernel_rfl) (fun _ _ _ h => h) (Or.inr ⟨by rfl, rfl⟩) (by assumption) ?_
                  simp only [Act.put, List.getElem_toArray, List.getElem_cons_succ, List.getElem_cons_zero, List.setIfInBounds_toArray, List.set_cons_zero, List.set_cons_succ]
                  refine wpAnyH_take (i := 17) (v := undef) rfl (by kernel_rfl) (by kernel_rfl) (by kernel_rfl) (fun _ _ _ h => h) (Or.inr ⟨by rfl, rfl⟩) (by assumption) ?_
                  simp only [Act.put, List.getElem_toArray, List.getElem_cons_succ, List.getElem_cons_zero, List.setIfInBounds_toArray, List.set_cons_zero, List.set_cons_succ]
                  refine wpAnyH_take (i := 18) (v := undef) rfl (by kernel_rfl) (by kernel_rfl) (by kernel_rfl) (fun _ _ _ h => h) (Or.inr ⟨by rfl, rfl⟩) (by assumption) ?_
                  simp only [Act.put, List.getElem_toArray, List.getElem_cons_succ, List.getElem_cons_zero, List.setIfInBounds_toArray, List.set_cons_zero, List.set_cons_succ]
                  refine wpAnyH_take (i := 19) (v := undef) rfl (by kernel_rfl) (by kernel_rfl) (by kernel_rfl) (fun _ _ _ h => h) (Or.inr ⟨by rfl, rfl⟩) (by assumption) ?_
                  simp only [Act.put, List.getElem_toArray, List.getElem_cons_succ, List.getElem_cons_zero, List.setIfInBounds_toArray, List.set_cons_zero, List.set_cons_succ]
                  refine wpAnyH_take (i := 20) (v := undef) rfl (by kernel_rfl) (by kernel_rfl) (by kernel_rfl) (fun _ _ _ h => h) (Or.inr ⟨by rfl, rfl⟩) (by assumption) ?_
                  simp only [Act.put, List.getElem_toArray, List.getElem_cons_succ, List.getElem_cons_zero, List.setIfInBounds_toArray, List.set_cons_zero, List.set_cons_succ]
                  refine wpAnyH_take (i := 21) (v := undef) rfl (by kernel_rfl) (by kernel_rfl) (by kernel_rfl) (fun _ _ _ h => h) (Or.inr ⟨by rfl, rfl⟩) (by assumption) ?_
                  simp only [Act.put, List.getElem_toArray, List.getElem_cons_succ, List.getElem_cons_zero, List.setIfInBounds_toArray, List.set_cons_zero, List.set_cons_succ]
                  refine wpAnyH_take (i := 22) (v := undef) rfl (by kernel_rfl) (by kernel_rfl) (by kernel_rfl) (fun _ _ _ h => h) (Or.inr ⟨by rfl, rfl⟩) (by assumption) ?_
                  simp only [Act.put, List.getElem_toArray, List.getElem_cons_succ, List.getElem_cons_zero, List.setIfInBounds_toArray, List.set_cons_zero, List.set_cons_succ]
                  refine wpAnyH_take (i := 23) (v := undef) rfl (by kernel_rfl) (by kernel_rfl) (by kernel_rfl) (fun _ _ _ h => h) (Or.inr ⟨by rfl, rfl⟩) (by assumption) ?_
                  simp only [Act.put, List.getElem_toArray, List.getElem_cons_succ, List.getElem_cons_zero, List.setIfInBounds_toArray, List.set_cons_zero, List.set_cons_succ]
                  refine wpAnyH_take (i := 24) (v := undef) rfl (by kernel_rfl) (by kernel_rfl) (by kernel_rfl) (fun _ _ _ h => h) (Or.inr ⟨by rfl, rfl⟩) (by assumption) ?_
                  simp only [Act.put, List.getElem_toArray, List.getElem_cons_succ, List.getElem_cons_zero, List.setIfInBounds_toArray, List.set_cons_zero, List.set_cons_succ]
                  refine wpAnyH_take (i := 25) (v := undef) rfl (by kernel_rfl) (by kernel_rfl) (by kernel_rfl) (fun _ _ _ h => h) (Or.inr ⟨by rfl, rfl⟩) (by assumption) ?_
                  simp only [Act.put, List.getElem_toArray, List.getElem_cons_succ, List.getElem_cons_zero, List.setIfInBounds_toArray, List.set_cons_zero, List.set_cons_succ]
                  refine wpAnyH_take (i := 26) (v := undef) rfl (by kernel_rfl) (by kernel_rfl) (by kernel_rfl) (fun _ _ _ h => h) (Or.inr ⟨by rfl, rfl⟩) (by assumption) ?_
                  simp only [Act.put, List.getElem_toArray, List.getElem_cons_succ, List.getElem_cons_zero, List.setIfInBounds_toArray, List.set_cons_zero, List.set_cons_succ]
                  refine wpAnyH_take (i := 27) (v := ?v27) rfl (by kernel_rfl) (by kernel_rfl) (by kernel_rfl) (fun _ _ _ h => h) (Or.inl ⟨by rfl, ?hy27⟩) (by assumption) ?_
                  case hy27 => (intro w hSw; (try dsimp only at hSw); go_simp; first | done | with_reducible rfl)
                  simp only [Act.put, List.getElem_toArray, List.getElem_cons_succ, List.getElem_cons_zero, List.setIfInBounds_toArray, List.set_cons_zero, List.set_cons_succ]
                  refine wpAnyH_done (by kernel_rfl) ?_ _
                  go_wp2
                  go_ret
                  exact ⟨ret_bool HE.out.symm, Bw.out.trans (Kt.out.mono Bw.out.size)⟩
                | true =>
                  have HTc : Hid (∀ W, Below wr.heap.size wr W → Calls Tryz.prog 53 #[.agg #[.slice ao O.length co, .slice an zss.length cn], .int .i64 q] W fun e w' => e = .returned (.bool true) ∧ Below W.heap.size W w') := fun W hb => l1There_is ht (HAt.out.below (Bw.out.trans (hb.mono Bw.out.size)))
                  have HTH := Lib.hid ht
                  clear ht hq
                  by_cases hkz : k = 0
                  · have HKZ := Lib.hid hkz
                    have hkd : decide ((0 : Int) < (k : Int)) = false := by simp [hkz]
                    have HJn : Hid (∀ j, j < k + 1 → StepAt O zss L j) := fun j hj => by
                      obtain rfl : j = k := by omega
                      exact ⟨by rw [← HQ.out]; exact HTH.out, fun h => absurd h (by omega)⟩
                    clear hkz
                    have HSw : Hid (∀ W, Below wr.heap.size wr W → W.cell? ⟨w.heap.size, 0, none⟩ = some (.slice ao O.length co) ∧ W.cell? ⟨w.heap.size, 1, none⟩ = some (.slice an zss.length cn) ∧ W.cell? ⟨g8, k, none⟩ = some (.int .i64 q)) := fun W hb => ⟨(Tw.out.below hb).cell0, (Tw.out.below hb).cell1, by rw [HLc.out _ hb k hlt, HQ.out]⟩
                    go_wp2
                    refine wp_region_held_drew (S := (fun W => W.cell? ⟨w.heap.size, 0, none⟩ = some (.slice ao O.length co) ∧ W.cell? ⟨w.heap.size, 1, none⟩ = some (.slice an zss.length cn) ∧ W.cell? ⟨g8, k, none⟩ = some (.int .i64 q))) (by kernel_rfl) (HSw.out _ Kd.out) (fun hHeld => ?_)
                    refine wpAnyH_take (i := 0) (v := ?vb0) rfl (by kernel_rfl) (by kernel_rfl) (by kernel_rfl) (fun _ _ _ h => h) (Or.inl ⟨by rfl, ?hyb0⟩) (by assumption) ?_
                    case hyb0 => (intro w hSw; (try dsimp only at hSw); go_simp; first | done | with_reducible rfl)
                    simp only [Act.put, List.getElem_toArray, List.getElem_cons_succ, List.getElem_cons_zero, List.setIfInBounds_toArray, List.set_cons_zero, List.set_cons_succ]
                    refine wpAnyH_take (i := 1) (v := ?vb1) rfl (by kernel_rfl) (by kernel_rfl) (by kernel_rfl) (fun _ _ _ h => h) (Or.inl ⟨by rfl, ?hyb1⟩) (by assumption) ?_
                    case hyb1 => (intro w hSw; (try dsimp only at hSw); go_simp; first | done | with_reducible rfl)
                    simp only [Act.put, List.getElem_toArray, List.getElem_cons_succ, List.getElem_cons_zero, List.setIfInBounds_toArray, List.set_cons_zero, List.set_cons_succ]
                    refine wpAnyH_take (i := 2) (v := ?vb2) rfl (by kernel_rfl) (by kernel_rfl) (by kernel_rfl) (fun _ _ _ h => h) (Or.inl ⟨by rfl, ?hyb2⟩) (by assumption) ?_
                    case hyb2 => (intro w hSw; (try dsimp only at hSw); go_simp; first | done | with_reducible rfl)
                    simp only [Act.put, List.getElem_toArray, List.getElem_cons_succ, List.getElem_cons_zero, List.setIfInBounds_toArray, List.set_cons_zero, List.set_cons_succ]
                    refine wpAnyH_take (i := 3) (v := ?vb3) rfl (by kernel_rfl) (by kernel_rfl) (by kernel_rfl) (fun _ _ _ h => h) (Or.inl ⟨by rfl, ?hyb3⟩) (by assumption) ?_
                    case hyb3 => (intro w hSw; (try dsimp only at hSw); go_simp; first | done | with_reducible rfl)
                    simp only [Act.put, List.getElem_toArray, List.getElem_cons_succ, List.getElem_cons_zero, List.setIfInBounds_toArray, List.set_cons_zero, List.set_cons_succ]
                    refine wpAnyH_take (i := 4) (v := ?vb4) rfl (by kernel_rfl) (by kernel_rfl) (by kernel_rfl) (fun _ _ _ h => h) (Or.inl ⟨by rfl, ?hyb4⟩) (by assumption) ?_
                    case hyb4 => (intro w hSw; (try dsimp only at hSw); go_simp; first | done | with_reducible rfl)
                    simp only [Act.put, List.getElem_toArray, List.getElem_cons_succ, List.getElem_cons_zero, List.setIfInBounds_toArray, List.set_cons_zero, List.set_cons_succ]
                    refine wpAnyH_ready (rs := [5]) (by kernel_rfl) (by simp) (AllReadyH.cons rfl (fun K hK => ?_) AllReadyH.nil)
                    go_simp
                    go_at_call 53
                    refine (HTc.out _ Kd.out).mono ?_
                    rintro e wt ⟨rfl, hb⟩
                    have Kt := Lib.hid (Kd.out.trans (hb.mono Kd.out.size))
                    clear hb
                    go_wp2_with fail
                    refine hK.out _ _ (HSw.out _ Kt.out) (fun hHeld => ?_)
                    clear hK K
                    try simp only [Act.put, List.getElem_toArray, List.getElem_cons_succ, List.getElem_cons_zero, List.setIfInBounds_toArray, List.set_cons_zero, List.set_cons_succ]
                    refine wpAnyH_take (i := 6) (v := ?vb6) rfl (by kernel_rfl) (by kernel_rfl) (by kernel_rfl) (fun _ _ _ h => h) (Or.inl ⟨by rfl, ?hyb6⟩) (by assumption) ?_
                    case hyb6 => (intro w hSw; (try dsimp only at hSw); go_simp; first | done | with_reducible rfl)
                    simp only [Act.put, List.getElem_toArray, List.getElem_cons_succ, List.getElem_cons_zero, List.setIfInBounds_toArray, List.set_cons_zero, List.set_cons_succ]
                    refine wpAnyH_take (i := 7) (v := ?vb7) rfl (by kernel_rfl) (by kernel_rfl) (by kernel_rfl) (fun _ _ _ h => h) (Or.inl ⟨by rfl, ?hyb7⟩) (by assumption) ?_
                    case hyb7 => (intro w hSw; (try dsimp only at hSw); go_simp; first | done | with_reducible rfl)
                    simp only [Act.put, List.getElem_toArray, List.getElem_cons_succ, List.getElem_cons_zero, List.setIfInBounds_toArray, List.set_cons_zero, List.set_cons_succ]
                    refine wpAnyH_take (i := 8) (v := ?vb8) rfl (by kernel_rfl) (by kernel_rfl) (by kernel_rfl) (fun _ _ _ h => h) (Or.inl ⟨by rfl, ?hyb8⟩) (by assumption) ?_
                    case hyb8 => (intro w hSw; (try dsimp only at hSw); go_simp; first | done | with_reducible rfl)
                    simp only [Act.put, List.getElem_toArray, List.getElem_cons_succ, List.getElem_cons_zero, List.setIfInBounds_toArray, List.set_cons_zero, List.set_cons_succ]
                    refine wpAnyH_take (i := 9) (v := .bool false) rfl (by kernel_rfl) (by kernel_rfl) (by kernel_rfl) (fun _ _ _ h => h) (Or.inl ⟨by rfl, ?hyb9⟩) (by assumption) ?_
                    case hyb9 => (intro w hSw; (try dsimp only at hSw); go_simp; first | done | omega | (have := HKZ.out; omega) | (have := HM.out; omega) | (have := HKZ.out; simp [this]) | (have := HM.out; simp [this]))
                    simp only [Act.put, List.getElem_toArray, List.getElem_cons_succ, List.getElem_cons_zero, List.setIfInBounds_toArray, List.set_cons_zero, List.set_cons_succ]
                    refine wpAnyH_take (i := 10) (v := ?vb10) rfl (by kernel_rfl) (by kernel_rfl) (by kernel_rfl) (fun _ _ _ h => h) (Or.inl ⟨by rfl, ?hyb10⟩) (by assumption) ?_
                    case hyb10 => (intro w hSw; (try dsimp only at hSw); go_simp; first | done | with_reducible rfl)
                    simp only [Act.put, List.getElem_toArray, List.getElem_cons_succ, List.getElem_cons_zero, List.setIfInBounds_toArray, List.set_cons_zero, List.set_cons_succ]
                    refine wpAnyH_take (i := 11) (v := undef) rfl (by kernel_rfl) (by kernel_rfl) (by kernel_rfl) (fun _ _ _ h => h) (Or.inr ⟨by rfl, rfl⟩) (by assumption) ?_
                    simp only [Act.put, List.getElem_toArray, List.getElem_cons_succ, List.getElem_cons_zero, List.setIfInBounds_toArray, List.set_cons_zero, List.set_cons_succ]
                    refine wpAnyH_take (i := 12) (v := undef) rfl (by kernel_rfl) (by kernel_rfl) (by kernel_rfl) (fun _ _ _ h => h) (Or.inr ⟨by rfl, rfl⟩) (by assumption) ?_
                    simp only [Act.put, List.getElem_toArray, List.getElem_cons_succ, List.getElem_cons_zero, List.setIfInBounds_toArray, List.set_cons_zero, List.set_cons_succ]
                    refine wpAnyH_take (i := 13) (v := undef) rfl (by kernel_rfl) (by kernel_rfl) (by kernel_rfl) (fun _ _ _ h => h) (Or.inr ⟨by rfl, rfl⟩) (by assumption) ?_
                    simp only [Act.put, List.getElem_toArray, List.getElem_cons_succ, List.getElem_cons_zero, List.setIfInBounds_toArray, List.set_cons_zero, List.set_cons_succ]
                    refine wpAnyH_take (i := 14) (v := undef) rfl (by kernel_rfl) (by kernel_rfl) (by kernel_rfl) (fun _ _ _ h => h) (Or.inr ⟨by rfl, rfl⟩) (by assumption) ?_
                    simp only [Act.put, List.getElem_toArray, List.getElem_cons_succ, List.getElem_cons_zero, List.setIfInBounds_toArray, List.set_cons_zero, List.set_cons_succ]
                    refine wpAnyH_take (i := 15) (v := undef) rfl (by kernel_rfl) (by kernel_rfl) (by kernel_rfl) (fun _ _ _ h => h) (Or.inr ⟨by rfl, rfl⟩) (by assumption) ?_
                    simp only [Act.put, List.getElem_toArray, List.getElem_cons_succ, List.getElem_cons_zero, List.setIfInBounds_toArray, List.set_cons_zero, List.set_cons_succ]
                    refine wpAnyH_take (i := 16) (v := undef) rfl (by kernel_rfl) (by kernel_rfl) (by kernel_rfl) (fun _ _ _ h => h) (Or.inr ⟨by rfl, rfl⟩) (by assumption) ?_
                    simp only [Act.put, List.getElem_toArray, List.getElem_cons_succ, List.getElem_cons_zero, List.setIfInBounds_toArray, List.set_cons_zero, List.set_cons_succ]
                    refine wpAnyH_take (i := 17) (v := undef) rfl (by kernel_rfl) (by kernel_rfl) (by kernel_rfl) (fun _ _ _ h => h) (Or.inr ⟨by rfl, rfl⟩) (by assumption) ?_
                    simp only [Act.put, List.getElem_toArray, List.getElem_cons_succ, List.getElem_cons_zero, List.setIfInBounds_toArray, List.set_cons_zero, List.set_cons_succ]
                    refine wpAnyH_take (i := 18) (v := undef) rfl (by kernel_rfl) (by kernel_rfl) (by kernel_rfl) (fun _ _ _ h => h) (Or.inr ⟨by rfl, rfl⟩) (by assumption) ?_
                    simp only [Act.put, List.getElem_toArray, List.getElem_cons_succ, List.getElem_cons_zero, List.setIfInBounds_toArray, List.set_cons_zero, List.set_cons_succ]
                    refine wpAnyH_take (i := 19) (v := undef) rfl (by kernel_rfl) (by kernel_rfl) (by kernel_rfl) (fun _ _ _ h => h) (Or.inr ⟨by rfl, rfl⟩) (by assumption) ?_
                    simp only [Act.put, List.getElem_toArray, List.getElem_cons_succ, List.getElem_cons_zero, List.setIfInBounds_toArray, List.set_cons_zero, List.set_cons_succ]
                    refine wpAnyH_take (i := 20) (v := undef) rfl (by kernel_rfl) (by kernel_rfl) (by kernel_rfl) (fun _ _ _ h => h) (Or.inr ⟨by rfl, rfl⟩) (by assumption) ?_
                    simp only [Act.put, List.getElem_toArray, List.getElem_cons_succ, List.getElem_cons_zero, List.setIfInBounds_toArray, List.set_cons_zero, List.set_cons_succ]
                    refine wpAnyH_take (i := 21) (v := undef) rfl (by kernel_rfl) (by kernel_rfl) (by kernel_rfl) (fun _ _ _ h => h) (Or.inr ⟨by rfl, rfl⟩) (by assumption) ?_
                    simp only [Act.put, List.getElem_toArray, List.getElem_cons_succ, List.getElem_cons_zero, List.setIfInBounds_toArray, List.set_cons_zero, List.set_cons_succ]
                    refine wpAnyH_take (i := 22) (v := undef) rfl (by kernel_rfl) (by kernel_rfl) (by kernel_rfl) (fun _ _ _ h => h) (Or.inr ⟨by rfl, rfl⟩) (by assumption) ?_
                    simp only [Act.put, List.getElem_toArray, List.getElem_cons_succ, List.getElem_cons_zero, List.setIfInBounds_toArray, List.set_cons_zero, List.set_cons_succ]
                    refine wpAnyH_take (i := 23) (v := undef) rfl (by kernel_rfl) (by kernel_rfl) (by kernel_rfl) (fun _ _ _ h => h) (Or.inr ⟨by rfl, rfl⟩) (by assumption) ?_
                    simp only [Act.put, List.getElem_toArray, List.getElem_cons_succ, List.getElem_cons_zero, List.setIfInBounds_toArray, List.set_cons_zero, List.set_cons_succ]
                    refine wpAnyH_take (i := 24) (v := undef) rfl (by kernel_rfl) (by kernel_rfl) (by kernel_rfl) (fun _ _ _ h => h) (Or.inr ⟨by rfl, rfl⟩) (by assumption) ?_
                    simp only [Act.put, List.getElem_toArray, List.getElem_cons_succ, List.getElem_cons_zero, List.setIfInBounds_toArray, List.set_cons_zero, List.set_cons_succ]
                    refine wpAnyH_take (i := 25) (v := undef) rfl (by kernel_rfl) (by kernel_rfl) (by kernel_rfl) (fun _ _ _ h => h) (Or.inr ⟨by rfl, rfl⟩) (by assumption) ?_
                    simp only [Act.put, List.getElem_toArray, List.getElem_cons_succ, List.getElem_cons_zero, List.setIfInBounds_toArray, List.set_cons_zero, List.set_cons_succ]
                    refine wpAnyH_take (i := 26) (v := ?vb26) rfl (by kernel_rfl) (by kernel_rfl) (by kernel_rfl) (fun _ _ _ h => h) (Or.inl ⟨by rfl, ?hyb26⟩) (by assumption) ?_
                    case hyb26 => (intro w hSw; (try dsimp only at hSw); go_simp; first | done | with_reducible rfl)
                    simp only [Act.put, List.getElem_toArray, List.getElem_cons_succ, List.getElem_cons_zero, List.setIfInBounds_toArray, List.set_cons_zero, List.set_cons_succ]
                    refine wpAnyH_take (i := 27) (v := ?vb27) rfl (by kernel_rfl) (by kernel_rfl) (by kernel_rfl) (fun _ _ _ h => h) (Or.inl ⟨by rfl, ?hyb27⟩) (by assumption) ?_
                    case hyb27 => (intro w hSw; (try dsimp only at hSw); go_simp; first | done | with_reducible rfl)
                    simp only [Act.put, List.getElem_toArray, List.getElem_cons_succ, List.getElem_cons_zero, List.setIfInBounds_toArray, List.set_cons_zero, List.set_cons_succ]
                    refine wpAnyH_done (by kernel_rfl) ?_ _
                    go_wp2
                    go_roundw
                    case rel => exact ⟨k + 1, by omega, by go_num, HJn, HK.out.trans (Kt.out.mono HK.out.size)⟩
                    case measure => simp [intOf]; omega
                  · obtain ⟨m, hm⟩ : ∃ m : Nat, k = m + 1 := ⟨k - 1, by omega⟩
                    have HM := Lib.hid hm
                    have hkd : decide ((0 : Int) < (k : Int)) = true := by simp; omega
                    have hm0 : (0 : Int) ≤ (m : Int) := by omega
                    have hm1 : (m : Int) < L.length := by omega
                    have hwr : IntKind.i64.wrap ((k : Int) - 1) = (m : Int) := by rw [IntKind.wrap_i64] <;> omega
                    have hm2 : m < L.length := by omega
                    have hth := (HJ.out m (by omega)).1
                    obtain ⟨u, hu, hun⟩ : ∃ u : Nat, nth L m = (u : Int) ∧ u < O.length := by
                      unfold thereB at hth
                      have := of_decide_eq_true hth
                      exact ⟨(nth L m).toNat, by omega, by omega⟩
                    have HU := Lib.hid hu
                    have hzn : zss.length = O.length := by have := HAP.out.2.2.1; omega
                    have hu0 : (0 : Int) ≤ (u : Int) := by omega
                    have hu1 : (u : Int) < zss.length := by omega
                    have huz : u < zss.length := by omega
                    obtain ⟨nb, no, hna, hnc⟩ := HNi.out.cell (by omega)
                    subst hna
                    have HSw : Hid (∀ W, Below wr.heap.size wr W → W.cell? ⟨w.heap.size, 0, none⟩ = some (.slice ao O.length co) ∧ W.cell? ⟨w.heap.size, 1, none⟩ = some (.slice (some ⟨nb, no, none⟩) zss.length cn) ∧ W.cell? ⟨g8, k, none⟩ = some (.int .i64 q) ∧ W.cell? ⟨g8, m, none⟩ = some (.int .i64 u) ∧ W.cell? ⟨nb, no + u, none⟩ = some (.slice (A u) (row zss u).length (C u))) := fun W hb => ⟨(Tw.out.below hb).cell0, (Tw.out.below hb).cell1, by rw [HLc.out _ hb k hlt, HQ.out], by rw [HLc.out _ hb m hm2, HU.out], by
                      obtain ⟨b, o, ha, hc⟩ := (HNi.out.below (Bw.out.trans (hb.mono Bw.out.size))).cell (by omega)
                      simp only [Option.some.injEq, Addr.mk.injEq, and_true] at ha
                      obtain ⟨rfl, rfl⟩ := ha
                      exact hc u huz⟩
                    clear hth hu hun hzn hnc p1 t0 t1 hm hkz
                    cases hh : hasB (row zss u) q with
                    | true =>
                      have HHc : Hid (∀ W, Below wr.heap.size wr W → Calls Tryz.prog 54 #[.slice (A u) (row zss u).length (C u), .int .i64 q] W fun e w' => e = .returned (.bool true) ∧ W = w') := fun W hb => l1Has_is hh (C u) W ((HNi.out.below (Bw.out.trans (hb.mono Bw.out.size))).rows u huz)
                      have HJn : Hid (∀ j, j < k + 1 → StepAt O zss L j) := fun j hj => by
                        by_cases e : j = k
                        · subst e
                          exact ⟨by rw [← HQ.out]; exact HTH.out, fun _ => by rw [← HQ.out, show j - 1 = m by have := HM.out; omega, HU.out, Int.toNat_natCast]; unfold hasB at hh; simpa using hh⟩
                        · exact HJ.out j (by omega)
                      clear hh
                      go_wp2
                      refine wp_region_held_drew (S := (fun W => W.cell? ⟨w.heap.size, 0, none⟩ = some (.slice ao O.length co) ∧ W.cell? ⟨w.heap.size, 1, none⟩ = some (.slice (some ⟨nb, no, none⟩) zss.length cn) ∧ W.cell? ⟨g8, k, none⟩ = some (.int .i64 q) ∧ W.cell? ⟨g8, m, none⟩ = some (.int .i64 u) ∧ W.cell? ⟨nb, no + u, none⟩ = some (.slice (A u) (row zss u).length (C u)))) (by kernel_rfl) (HSw.out _ Kd.out) (fun hHeld => ?_)
                      refine wpAnyH_take (i := 0) (v := ?vc0) rfl (by kernel_rfl) (by kernel_rfl) (by kernel_rfl) (fun _ _ _ h => h) (Or.inl ⟨by rfl, ?hyc0⟩) (by assumption) ?_
                      case hyc0 => (intro w hSw; (try dsimp only at hSw); go_simp; first | done | with_reducible rfl)
                      simp only [Act.put, List.getElem_toArray, List.getElem_cons_succ, List.getElem_cons_zero, List.setIfInBounds_toArray, List.set_cons_zero, List.set_cons_succ]
                      refine wpAnyH_take (i := 1) (v := ?vc1) rfl (by kernel_rfl) (by kernel_rfl) (by kernel_rfl) (fun _ _ _ h => h) (Or.inl ⟨by rfl, ?hyc1⟩) (by assumption) ?_
                      case hyc1 => (intro w hSw; (try dsimp only at hSw); go_simp; first | done | with_reducible rfl)
                      simp only [Act.put, List.getElem_toArray, List.getElem_cons_succ, List.getElem_cons_zero, List.setIfInBounds_toArray, List.set_cons_zero, List.set_cons_succ]
                      refine wpAnyH_take (i := 2) (v := ?vc2) rfl (by kernel_rfl) (by kernel_rfl) (by kernel_rfl) (fun _ _ _ h => h) (Or.inl ⟨by rfl, ?hyc2⟩) (by assumption) ?_
                      case hyc2 => (intro w hSw; (try dsimp only at hSw); go_simp; first | done | with_reducible rfl)
                      simp only [Act.put, List.getElem_toArray, List.getElem_cons_succ, List.getElem_cons_zero, List.setIfInBounds_toArray, List.set_cons_zero, List.set_cons_succ]
                      refine wpAnyH_take (i := 3) (v := ?vc3) rfl (by kernel_rfl) (by kernel_rfl) (by kernel_rfl) (fun _ _ _ h => h) (Or.inl ⟨by rfl, ?hyc3⟩) (by assumption) ?_
                      case hyc3 => (intro w hSw; (try dsimp only at hSw); go_simp; first | done | with_reducible rfl)
                      simp only [Act.put, List.getElem_toArray, List.getElem_cons_succ, List.getElem_cons_zero, List.setIfInBounds_toArray, List.set_cons_zero, List.set_cons_succ]
                      refine wpAnyH_take (i := 4) (v := ?vc4) rfl (by kernel_rfl) (by kernel_rfl) (by kernel_rfl) (fun _ _ _ h => h) (Or.inl ⟨by rfl, ?hyc4⟩) (by assumption) ?_
                      case hyc4 => (intro w hSw; (try dsimp only at hSw); go_simp; first | done | with_reducible rfl)
                      simp only [Act.put, List.getElem_toArray, List.getElem_cons_succ, List.getElem_cons_zero, List.setIfInBounds_toArray, List.set_cons_zero, List.set_cons_succ]
                      refine wpAnyH_ready (rs := [5]) (by kernel_rfl) (by simp) (AllReadyH.cons rfl (fun K hK => ?_) AllReadyH.nil)
                      go_simp
                      go_at_call 53
                      refine (HTc.out _ Kd.out).mono ?_
                      rintro e wt ⟨rfl, hb⟩
                      have Kt := Lib.hid (Kd.out.trans (hb.mono Kd.out.size))
                      clear hb
                      go_wp2_with fail
                      refine hK.out _ _ (HSw.out _ Kt.out) (fun hHeld => ?_)
                      clear hK K
                      try simp only [Act.put, List.getElem_toArray, List.getElem_cons_succ, List.getElem_cons_zero, List.setIfInBounds_toArray, List.set_cons_zero, List.set_cons_succ]
                      refine wpAnyH_take (i := 6) (v := ?vc6) rfl (by kernel_rfl) (by kernel_rfl) (by kernel_rfl) (fun _ _ _ h => h) (Or.inl ⟨by rfl, ?hyc6⟩) (by assumption) ?_
                      case hyc6 => (intro w hSw; (try dsimp only at hSw); go_simp; first | done | with_reducible rfl)
                      simp only [Act.put, List.getElem_toArray, List.getElem_cons_succ, List.getElem_cons_zero, List.setIfInBounds_toArray, List.set_cons_zero, List.set_cons_succ]
                      refine wpAnyH_take (i := 7) (v := ?vc7) rfl (by kernel_rfl) (by kernel_rfl) (by kernel_rfl) (fun _ _ _ h => h) (Or.inl ⟨by rfl, ?hyc7⟩) (by assumption) ?_
                      case hyc7 => (intro w hSw; (try dsimp only at hSw); go_simp; first | done | with_reducible rfl)
                      simp only [Act.put, List.getElem_toArray, List.getElem_cons_succ, List.getElem_cons_zero, List.setIfInBounds_toArray, List.set_cons_zero, List.set_cons_succ]
                      refine wpAnyH_take (i := 8) (v := ?vc8) rfl (by kernel_rfl) (by kernel_rfl) (by kernel_rfl) (fun _ _ _ h => h) (Or.inl ⟨by rfl, ?hyc8⟩) (by assumption) ?_
                      case hyc8 => (intro w hSw; (try dsimp only at hSw); go_simp; first | done | with_reducible rfl)
                      simp only [Act.put, List.getElem_toArray, List.getElem_cons_succ, List.getElem_cons_zero, List.setIfInBounds_toArray, List.set_cons_zero, List.set_cons_succ]
                      refine wpAnyH_take (i := 9) (v := .bool true) rfl (by kernel_rfl) (by kernel_rfl) (by kernel_rfl) (fun _ _ _ h => h) (Or.inl ⟨by rfl, ?hyc9⟩) (by assumption) ?_
                      case hyc9 => (intro w hSw; (try dsimp only at hSw); go_simp; first | done | omega | (have := HKZ.out; omega) | (have := HM.out; omega) | (have := HKZ.out; simp [this]) | (have := HM.out; simp [this]))
                      simp only [Act.put, List.getElem_toArray, List.getElem_cons_succ, List.getElem_cons_zero, List.setIfInBounds_toArray, List.set_cons_zero, List.set_cons_succ]
                      refine wpAnyH_take (i := 10) (v := ?vc10) rfl (by kernel_rfl) (by kernel_rfl) (by kernel_rfl) (fun _ _ _ h => h) (Or.inl ⟨by rfl, ?hyc10⟩) (by assumption) ?_
                      case hyc10 => (intro w hSw; (try dsimp only at hSw); go_simp; first | done | with_reducible rfl)
                      simp only [Act.put, List.getElem_toArray, List.getElem_cons_succ, List.getElem_cons_zero, List.setIfInBounds_toArray, List.set_cons_zero, List.set_cons_succ]
                      refine wpAnyH_take (i := 11) (v := ?vc11) rfl (by kernel_rfl) (by kernel_rfl) (by kernel_rfl) (fun _ _ _ h => h) (Or.inl ⟨by rfl, ?hyc11⟩) (by assumption) ?_
                      case hyc11 => (intro w hSw; (try dsimp only at hSw); go_simp; first | done | with_reducible rfl)
                      simp only [Act.put, List.getElem_toArray, List.getElem_cons_succ, List.getElem_cons_zero, List.setIfInBounds_toArray, List.set_cons_zero, List.set_cons_succ]
                      refine wpAnyH_take (i := 12) (v := ?vc12) rfl (by kernel_rfl) (by kernel_rfl) (by kernel_rfl) (fun _ _ _ h => h) (Or.inl ⟨by rfl, ?hyc12⟩) (by assumption) ?_
                      case hyc12 => (intro w hSw; (try dsimp only at hSw); go_simp; first | done | with_reducible rfl)
                      simp only [Act.put, List.getElem_toArray, List.getElem_cons_succ, List.getElem_cons_zero, List.setIfInBounds_toArray, List.set_cons_zero, List.set_cons_succ]
                      refine wpAnyH_take (i := 13) (v := ?vc13) rfl (by kernel_rfl) (by kernel_rfl) (by kernel_rfl) (fun _ _ _ h => h) (Or.inl ⟨by rfl, ?hyc13⟩) (by assumption) ?_
                      case hyc13 => (intro w hSw; (try dsimp only at hSw); go_simp; first | done | with_reducible rfl)
                      simp only [Act.put, List.getElem_toArray, List.getElem_cons_succ, List.getElem_cons_zero, List.setIfInBounds_toArray, List.set_cons_zero, List.set_cons_succ]
                      refine wpAnyH_take (i := 14) (v := ?vc14) rfl (by kernel_rfl) (by kernel_rfl) (by kernel_rfl) (fun _ _ _ h => h) (Or.inl ⟨by rfl, ?hyc14⟩) (by assumption) ?_
                      case hyc14 => (intro w hSw; (try dsimp only at hSw); go_simp; first | done | with_reducible rfl)
                      simp only [Act.put, List.getElem_toArray, List.getElem_cons_succ, List.getElem_cons_zero, List.setIfInBounds_toArray, List.set_cons_zero, List.set_cons_succ]
                      refine wpAnyH_take (i := 15) (v := ?vc15) rfl (by kernel_rfl) (by kernel_rfl) (by kernel_rfl) (fun _ _ _ h => h) (Or.inl ⟨by rfl, ?hyc15⟩) (by assumption) ?_
                      case hyc15 => (intro w hSw; (try dsimp only at hSw); go_simp; first | done | with_reducible rfl)
                      simp only [Act.put, List.getElem_toArray, List.getElem_cons_succ, List.getElem_cons_zero, List.setIfInBounds_toArray, List.set_cons_zero, List.set_cons_succ]
                      refine wpAnyH_take (i := 16) (v := ?vc16) rfl (by kernel_rfl) (by kernel_rfl) (by kernel_rfl) (fun _ _ _ h => h) (Or.inl ⟨by rfl, ?hyc16⟩) (by assumption) ?_
                      case hyc16 => (intro w hSw; (try dsimp only at hSw); go_simp; first | done | with_reducible rfl)
                      simp only [Act.put, List.getElem_toArray, List.getElem_cons_succ, List.getElem_cons_zero, List.setIfInBounds_toArray, List.set_cons_zero, List.set_cons_succ]
                      refine wpAnyH_take (i := 17) (v := ?vc17) rfl (by kernel_rfl) (by kernel_rfl) (by kernel_rfl) (fun _ _ _ h => h) (Or.inl ⟨by rfl, ?hyc17⟩) (by assumption) ?_
                      case hyc17 => (intro w hSw; (try dsimp only at hSw); go_simp; first | done | with_reducible rfl)
                      simp only [Act.put, List.getElem_toArray, List.getElem_cons_succ, List.getElem_cons_zero, List.setIfInBounds_toArray, List.set_cons_zero, List.set_cons_succ]
                      refine wpAnyH_take (i := 18) (v := ?vc18) rfl (by kernel_rfl) (by kernel_rfl) (by kernel_rfl) (fun _ _ _ h => h) (Or.inl ⟨by rfl, ?hyc18⟩) (by assumption) ?_
                      case hyc18 => (intro w hSw; (try dsimp only at hSw); go_simp; first | done | with_reducible rfl)
                      simp only [Act.put, List.getElem_toArray, List.getElem_cons_succ, List.getElem_cons_zero, List.setIfInBounds_toArray, List.set_cons_zero, List.set_cons_succ]
                      refine wpAnyH_take (i := 19) (v := ?vc19) rfl (by kernel_rfl) (by kernel_rfl) (by kernel_rfl) (fun _ _ _ h => h) (Or.inl ⟨by rfl, ?hyc19⟩) (by assumption) ?_
                      case hyc19 => (intro w hSw; (try dsimp only at hSw); go_simp; first | done | with_reducible rfl)
                      simp only [Act.put, List.getElem_toArray, List.getElem_cons_succ, List.getElem_cons_zero, List.setIfInBounds_toArray, List.set_cons_zero, List.set_cons_succ]
                      refine wpAnyH_take (i := 20) (v := ?vc20) rfl (by kernel_rfl) (by kernel_rfl) (by kernel_rfl) (fun _ _ _ h => h) (Or.inl ⟨by rfl, ?hyc20⟩) (by assumption) ?_
                      case hyc20 => (intro w hSw; (try dsimp only at hSw); go_simp; first | done | with_reducible rfl)
                      simp only [Act.put, List.getElem_toArray, List.getElem_cons_succ, List.getElem_cons_zero, List.setIfInBounds_toArray, List.set_cons_zero, List.set_cons_succ]
                      refine wpAnyH_take (i := 21) (v := ?vc21) rfl (by kernel_rfl) (by kernel_rfl) (by kernel_rfl) (fun _ _ _ h => h) (Or.inl ⟨by rfl, ?hyc21⟩) (by assumption) ?_
                      case hyc21 => (intro w hSw; (try dsimp only at hSw); go_simp; first | done | with_reducible rfl)
                      simp only [Act.put, List.getElem_toArray, List.getElem_cons_succ, List.getElem_cons_zero, List.setIfInBounds_toArray, List.set_cons_zero, List.set_cons_succ]
                      refine wpAnyH_take (i := 22) (v := ?vc22) rfl (by kernel_rfl) (by kernel_rfl) (by kernel_rfl) (fun _ _ _ h => h) (Or.inl ⟨by rfl, ?hyc22⟩) (by assumption) ?_
                      case hyc22 => (intro w hSw; (try dsimp only at hSw); go_simp; first | done | with_reducible rfl)
                      simp only [Act.put, List.getElem_toArray, List.getElem_cons_succ, List.getElem_cons_zero, List.setIfInBounds_toArray, List.set_cons_zero, List.set_cons_succ]
                      refine wpAnyH_take (i := 23) (v := ?vc23) rfl (by kernel_rfl) (by kernel_rfl) (by kernel_rfl) (fun _ _ _ h => h) (Or.inl ⟨by rfl, ?hyc23⟩) (by assumption) ?_
                      case hyc23 => (intro w hSw; (try dsimp only at hSw); go_simp; first | done | with_reducible rfl)
                      simp only [Act.put, List.getElem_toArray, List.getElem_cons_succ, List.getElem_cons_zero, List.setIfInBounds_toArray, List.set_cons_zero, List.set_cons_succ]
                      refine wpAnyH_ready (rs := [24]) (by kernel_rfl) (by simp) (AllReadyH.cons rfl (fun K hK => ?_) AllReadyH.nil)
                      go_simp
                      go_at_call 54
                      refine (HHc.out _ Kt.out).mono ?_
                      rintro e wt ⟨rfl, rfl⟩
                      go_wp2_with fail
                      refine hK.out _ _ (HSw.out _ Kt.out) (fun hHeld => ?_)
                      clear hK K
                      try simp only [Act.put, List.getElem_toArray, List.getElem_cons_succ, List.getElem_cons_zero, List.setIfInBounds_toArray, List.set_cons_zero, List.set_cons_succ]
                      refine wpAnyH_take (i := 25) (v := ?vc25) rfl (by kernel_rfl) (by kernel_rfl) (by kernel_rfl) (fun _ _ _ h => h) (Or.inl ⟨by rfl, ?hyc25⟩) (by assumption) ?_
                      case hyc25 => (intro w hSw; (try dsimp only at hSw); go_simp; first | done | with_reducible rfl)
                      simp only [Act.put, List.getElem_toArray, List.getElem_cons_succ, List.getElem_cons_zero, List.setIfInBounds_toArray, List.set_cons_zero, List.set_cons_succ]
                      refine wpAnyH_take (i := 26) (v := ?vc26) rfl (by kernel_rfl) (by kernel_rfl) (by kernel_rfl) (fun _ _ _ h => h) (Or.inl ⟨by rfl, ?hyc26⟩) (by assumption) ?_
                      case hyc26 => (intro w hSw; (try dsimp only at hSw); go_simp; first | done | with_reducible rfl)
                      simp only [Act.put, List.getElem_toArray, List.getElem_cons_succ, List.getElem_cons_zero, List.setIfInBounds_toArray, List.set_cons_zero, List.set_cons_succ]
                      refine wpAnyH_take (i := 27) (v := ?vc27) rfl (by kernel_rfl) (by kernel_rfl) (by kernel_rfl) (fun _ _ _ h => h) (Or.inl ⟨by rfl, ?hyc27⟩) (by assumption) ?_
                      case hyc27 => (intro w hSw; (try dsimp only at hSw); go_simp; first | done | with_reducible rfl)
                      simp only [Act.put, List.getElem_toArray, List.getElem_cons_succ, List.getElem_cons_zero, List.setIfInBounds_toArray, List.set_cons_zero, List.set_cons_succ]
                      refine wpAnyH_done (by kernel_rfl) ?_ _
                      go_wp2
                      go_roundw
                      case rel => exact ⟨k + 1, by omega, by go_num, HJn, HK.out.trans (Kt.out.mono HK.out.size)⟩
                      case measure => simp [intOf]; omega
                    | false =>
                      have HHc : Hid (∀ W, Below wr.heap.size wr W → Calls Tryz.prog 54 #[.slice (A u) (row zss u).length (C u), .int .i64 q] W fun e w' => e = .returned (.bool false) ∧ W = w') := fun W hb => l1Has_is hh (C u) W ((HNi.out.below (Bw.out.trans (hb.mono Bw.out.size))).rows u huz)
                      have HE : Hid (r = false) := HRN.out fun h => by
                        have := (h.2.2.2 k (by rw [← HLe.out]; exact hlt)).2 (by have := HM.out; omega)
                        rw [← HLe.out, ← HQ.out, show k - 1 = m by have := HM.out; omega, HU.out, Int.toNat_natCast] at this
                        unfold hasB at hh
                        simp [this] at hh
                      clear hh
                      go_wp2
                      refine wp_region_held_drew (S := (fun W => W.cell? ⟨w.heap.size, 0, none⟩ = some (.slice ao O.length co) ∧ W.cell? ⟨w.heap.size, 1, none⟩ = some (.slice (some ⟨nb, no, none⟩) zss.length cn) ∧ W.cell? ⟨g8, k, none⟩ = some (.int .i64 q) ∧ W.cell? ⟨g8, m, none⟩ = some (.int .i64 u) ∧ W.cell? ⟨nb, no + u, none⟩ = some (.slice (A u) (row zss u).length (C u)))) (by kernel_rfl) (HSw.out _ Kd.out) (fun hHeld => ?_)
                      refine wpAnyH_take (i := 0) (v := ?vd0) rfl (by kernel_rfl) (by kernel_rfl) (by kernel_rfl) (fun _ _ _ h => h) (Or.inl ⟨by rfl, ?hyd0⟩) (by assumption) ?_
                      case hyd0 => (intro w hSw; (try dsimp only at hSw); go_simp; first | done | with_reducible rfl)
                      simp only [Act.put, List.getElem_toArray, List.getElem_cons_succ, List.getElem_cons_zero, List.setIfInBounds_toArray, List.set_cons_zero, List.set_cons_succ]
                      refine wpAnyH_take (i := 1) (v := ?vd1) rfl (by kernel_rfl) (by kernel_rfl) (by kernel_rfl) (fun _ _ _ h => h) (Or.inl ⟨by rfl, ?hyd1⟩) (by assumption) ?_
                      case hyd1 => (intro w hSw; (try dsimp only at hSw); go_simp; first | done | with_reducible rfl)
                      simp only [Act.put, List.getElem_toArray, List.getElem_cons_succ, List.getElem_cons_zero, List.setIfInBounds_toArray, List.set_cons_zero, List.set_cons_succ]
                      refine wpAnyH_take (i := 2) (v := ?vd2) rfl (by kernel_rfl) (by kernel_rfl) (by kernel_rfl) (fun _ _ _ h => h) (Or.inl ⟨by rfl, ?hyd2⟩) (by assumption) ?_
                      case hyd2 => (intro w hSw; (try dsimp only at hSw); go_simp; first | done | with_reducible rfl)
                      simp only [Act.put, List.getElem_toArray, List.getElem_cons_succ, List.getElem_cons_zero, List.setIfInBounds_toArray, List.set_cons_zero, List.set_cons_succ]
                      refine wpAnyH_take (i := 3) (v := ?vd3) rfl (by kernel_rfl) (by kernel_rfl) (by kernel_rfl) (fun _ _ _ h => h) (Or.inl ⟨by rfl, ?hyd3⟩) (by assumption) ?_
                      case hyd3 => (intro w hSw; (try dsimp only at hSw); go_simp; first | done | with_reducible rfl)
                      simp only [Act.put, List.getElem_toArray, List.getElem_cons_succ, List.getElem_cons_zero, List.setIfInBounds_toArray, List.set_cons_zero, List.set_cons_succ]
                      refine wpAnyH_take (i := 4) (v := ?vd4) rfl (by kernel_rfl) (by kernel_rfl) (by kernel_rfl) (fun _ _ _ h => h) (Or.inl ⟨by rfl, ?hyd4⟩) (by assumption) ?_
                      case hyd4 => (intro w hSw; (try dsimp only at hSw); go_simp; first | done | with_reducible rfl)
                      simp only [Act.put, List.getElem_toArray, List.getElem_cons_succ, List.getElem_cons_zero, List.setIfInBounds_toArray, List.set_cons_zero, List.set_cons_succ]
                      refine wpAnyH_ready (rs := [5]) (by kernel_rfl) (by simp) (AllReadyH.cons rfl (fun K hK => ?_) AllReadyH.nil)
                      go_simp
                      go_at_call 53
                      refine (HTc.out _ Kd.out).mono ?_
                      rintro e wt ⟨rfl, hb⟩
                      have Kt := Lib.hid (Kd.out.trans (hb.mono Kd.out.size))
                      clear hb
                      go_wp2_with fail
                      refine hK.out _ _ (HSw.out _ Kt.out) (fun hHeld => ?_)
                      clear hK K
                      try simp only [Act.put, List.getElem_toArray, List.getElem_cons_succ, List.getElem_cons_zero, List.setIfInBounds_toArray, List.set_cons_zero, List.set_cons_succ]
                      refine wpAnyH_take (i := 6) (v := ?vd6) rfl (by kernel_rfl) (by kernel_rfl) (by kernel_rfl) (fun _ _ _ h => h) (Or.inl ⟨by rfl, ?hyd6⟩) (by assumption) ?_
                      case hyd6 => (intro w hSw; (try dsimp only at hSw); go_simp; first | done | with_reducible rfl)
                      simp only [Act.put, List.getElem_toArray, List.getElem_cons_succ, List.getElem_cons_zero, List.setIfInBounds_toArray, List.set_cons_zero, List.set_cons_succ]
                      refine wpAnyH_take (i := 7) (v := ?vd7) rfl (by kernel_rfl) (by kernel_rfl) (by kernel_rfl) (fun _ _ _ h => h) (Or.inl ⟨by rfl, ?hyd7⟩) (by assumption) ?_
                      case hyd7 => (intro w hSw; (try dsimp only at hSw); go_simp; first | done | with_reducible rfl)
                      simp only [Act.put, List.getElem_toArray, List.getElem_cons_succ, List.getElem_cons_zero, List.setIfInBounds_toArray, List.set_cons_zero, List.set_cons_succ]
                      refine wpAnyH_take (i := 8) (v := ?vd8) rfl (by kernel_rfl) (by kernel_rfl) (by kernel_rfl) (fun _ _ _ h => h) (Or.inl ⟨by rfl, ?hyd8⟩) (by assumption) ?_
                      case hyd8 => (intro w hSw; (try dsimp only at hSw); go_simp; first | done | with_reducible rfl)
                      simp only [Act.put, List.getElem_toArray, List.getElem_cons_succ, List.getElem_cons_zero, List.setIfInBounds_toArray, List.set_cons_zero, List.set_cons_succ]
                      refine wpAnyH_take (i := 9) (v := .bool true) rfl (by kernel_rfl) (by kernel_rfl) (by kernel_rfl) (fun _ _ _ h => h) (Or.inl ⟨by rfl, ?hyd9⟩) (by assumption) ?_
                      case hyd9 => (intro w hSw; (try dsimp only at hSw); go_simp; first | done | omega | (have := HKZ.out; omega) | (have := HM.out; omega) | (have := HKZ.out; simp [this]) | (have := HM.out; simp [this]))
                      simp only [Act.put, List.getElem_toArray, List.getElem_cons_succ, List.getElem_cons_zero, List.setIfInBounds_toArray, List.set_cons_zero, List.set_cons_succ]
                      refine wpAnyH_take (i := 10) (v := ?vd10) rfl (by kernel_rfl) (by kernel_rfl) (by kernel_rfl) (fun _ _ _ h => h) (Or.inl ⟨by rfl, ?hyd10⟩) (by assumption) ?_
                      case hyd10 => (intro w hSw; (try dsimp only at hSw); go_simp; first | done | with_reducible rfl)
                      simp only [Act.put, List.getElem_toArray, List.getElem_cons_succ, List.getElem_cons_zero, List.setIfInBounds_toArray, List.set_cons_zero, List.set_cons_succ]
                      refine wpAnyH_take (i := 11) (v := ?vd11) rfl (by kernel_rfl) (by kernel_rfl) (by kernel_rfl) (fun _ _ _ h => h) (Or.inl ⟨by rfl, ?hyd11⟩) (by assumption) ?_
                      case hyd11 => (intro w hSw; (try dsimp only at hSw); go_simp; first | done | with_reducible rfl)
                      simp only [Act.put, List.getElem_toArray, List.getElem_cons_succ, List.getElem_cons_zero, List.setIfInBounds_toArray, List.set_cons_zero, List.set_cons_succ]
                      refine wpAnyH_take (i := 12) (v := ?vd12) rfl (by kernel_rfl) (by kernel_rfl) (by kernel_rfl) (fun _ _ _ h => h) (Or.inl ⟨by rfl, ?hyd12⟩) (by assumption) ?_
                      case hyd12 => (intro w hSw; (try dsimp only at hSw); go_simp; first | done | with_reducible rfl)
                      simp only [Act.put, List.getElem_toArray, List.getElem_cons_succ, List.getElem_cons_zero, List.setIfInBounds_toArray, List.set_cons_zero, List.set_cons_succ]
                      refine wpAnyH_take (i := 13) (v := ?vd13) rfl (by kernel_rfl) (by kernel_rfl) (by kernel_rfl) (fun _ _ _ h => h) (Or.inl ⟨by rfl, ?hyd13⟩) (by assumption) ?_
                      case hyd13 => (intro w hSw; (try dsimp only at hSw); go_simp; first | done | with_reducible rfl)
                      simp only [Act.put, List.getElem_toArray, List.getElem_cons_succ, List.getElem_cons_zero, List.setIfInBounds_toArray, List.set_cons_zero, List.set_cons_succ]
                      refine wpAnyH_take (i := 14) (v := ?vd14) rfl (by kernel_rfl) (by kernel_rfl) (by kernel_rfl) (fun _ _ _ h => h) (Or.inl ⟨by rfl, ?hyd14⟩) (by assumption) ?_
                      case hyd14 => (intro w hSw; (try dsimp only at hSw); go_simp; first | done | with_reducible rfl)
                      simp only [Act.put, List.getElem_toArray, List.getElem_cons_succ, List.getElem_cons_zero, List.setIfInBounds_toArray, List.set_cons_zero, List.set_cons_succ]
                      refine wpAnyH_take (i := 15) (v := ?vd15) rfl (by kernel_rfl) (by kernel_rfl) (by kernel_rfl) (fun _ _ _ h => h) (Or.inl ⟨by rfl, ?hyd15⟩) (by assumption) ?_
                      case hyd15 => (intro w hSw; (try dsimp only at hSw); go_simp; first | done | with_reducible rfl)
                      simp only [Act.put, List.getElem_toArray, List.getElem_cons_succ, List.getElem_cons_zero, List.setIfInBounds_toArray, List.set_cons_zero, List.set_cons_succ]
                      refine wpAnyH_take (i := 16) (v := ?vd16) rfl (by kernel_rfl) (by kernel_rfl) (by kernel_rfl) (fun _ _ _ h => h) (Or.inl ⟨by rfl, ?hyd16⟩) (by assumption) ?_
                      case hyd16 => (intro w hSw; (try dsimp only at hSw); go_simp; first | done | with_reducible rfl)
                      simp only [Act.put, List.getElem_toArray, List.getElem_cons_succ, List.getElem_cons_zero, List.setIfInBounds_toArray, List.set_cons_zero, List.set_cons_succ]
                      refine wpAnyH_take (i := 17) (v := ?vd17) rfl (by kernel_rfl) (by kernel_rfl) (by kernel_rfl) (fun _ _ _ h => h) (Or.inl ⟨by rfl, ?hyd17⟩) (by assumption) ?_
                      case hyd17 => (intro w hSw; (try dsimp only at hSw); go_simp; first | done | with_reducible rfl)
                      simp only [Act.put, List.getElem_toArray, List.getElem_cons_succ, List.getElem_cons_zero, List.setIfInBounds_toArray, List.set_cons_zero, List.set_cons_succ]
                      refine wpAnyH_take (i := 18) (v := ?vd18) rfl (by kernel_rfl) (by kernel_rfl) (by kernel_rfl) (fun _ _ _ h => h) (Or.inl ⟨by rfl, ?hyd18⟩) (by assumption) ?_
                      case hyd18 => (intro w hSw; (try dsimp only at hSw); go_simp; first | done | with_reducible rfl)
                      simp only [Act.put, List.getElem_toArray, List.getElem_cons_succ, List.getElem_cons_zero, List.setIfInBounds_toArray, List.set_cons_zero, List.set_cons_succ]
                      refine wpAnyH_take (i := 19) (v := ?vd19) rfl (by kernel_rfl) (by kernel_rfl) (by kernel_rfl) (fun _ _ _ h => h) (Or.inl ⟨by rfl, ?hyd19⟩) (by assumption) ?_
                      case hyd19 => (intro w hSw; (try dsimp only at hSw); go_simp; first | done | with_reducible rfl)
                      simp only [Act.put, List.getElem_toArray, List.getElem_cons_succ, List.getElem_cons_zero, List.setIfInBounds_toArray, List.set_cons_zero, List.set_cons_succ]
                      refine wpAnyH_take (i := 20) (v := ?vd20) rfl (by kernel_rfl) (by kernel_rfl) (by kernel_rfl) (fun _ _ _ h => h) (Or.inl ⟨by rfl, ?hyd20⟩) (by assumption) ?_
                      case hyd20 => (intro w hSw; (try dsimp only at hSw); go_simp; first | done | with_reducible rfl)
                      simp only [Act.put, List.getElem_toArray, List.getElem_cons_succ, List.getElem_cons_zero, List.setIfInBounds_toArray, List.set_cons_zero, List.set_cons_succ]
                      refine wpAnyH_take (i := 21) (v := ?vd21) rfl (by kernel_rfl) (by kernel_rfl) (by kernel_rfl) (fun _ _ _ h => h) (Or.inl ⟨by rfl, ?hyd21⟩) (by assumption) ?_
                      case hyd21 => (intro w hSw; (try dsimp only at hSw); go_simp; first | done | with_reducible rfl)
                      simp only [Act.put, List.getElem_toArray, List.getElem_cons_succ, List.getElem_cons_zero, List.setIfInBounds_toArray, List.set_cons_zero, List.set_cons_succ]
                      refine wpAnyH_take (i := 22) (v := ?vd22) rfl (by kernel_rfl) (by kernel_rfl) (by kernel_rfl) (fun _ _ _ h => h) (Or.inl ⟨by rfl, ?hyd22⟩) (by assumption) ?_
                      case hyd22 => (intro w hSw; (try dsimp only at hSw); go_simp; first | done | with_reducible rfl)
                      simp only [Act.put, List.getElem_toArray, List.getElem_cons_succ, List.getElem_cons_zero, List.setIfInBounds_toArray, List.set_cons_zero, List.set_cons_succ]
                      refine wpAnyH_take (i := 23) (v := ?vd23) rfl (by kernel_rfl) (by kernel_rfl) (by kernel_rfl) (fun _ _ _ h => h) (Or.inl ⟨by rfl, ?hyd23⟩) (by assumption) ?_
                      case hyd23 => (intro w hSw; (try dsimp only at hSw); go_simp; first | done | with_reducible rfl)
                      simp only [Act.put, List.getElem_toArray, List.getElem_cons_succ, List.getElem_cons_zero, List.setIfInBounds_toArray, List.set_cons_zero, List.set_cons_succ]
                      refine wpAnyH_ready (rs := [24]) (by kernel_rfl) (by simp) (AllReadyH.cons rfl (fun K hK => ?_) AllReadyH.nil)
                      go_simp
                      go_at_call 54
                      refine (HHc.out _ Kt.out).mono ?_
                      rintro e wt ⟨rfl, rfl⟩
                      go_wp2_with fail
                      refine hK.out _ _ (HSw.out _ Kt.out) (fun hHeld => ?_)
                      clear hK K
                      try simp only [Act.put, List.getElem_toArray, List.getElem_cons_succ, List.getElem_cons_zero, List.setIfInBounds_toArray, List.set_cons_zero, List.set_cons_succ]
                      refine wpAnyH_take (i := 25) (v := ?vd25) rfl (by kernel_rfl) (by kernel_rfl) (by kernel_rfl) (fun _ _ _ h => h) (Or.inl ⟨by rfl, ?hyd25⟩) (by assumption) ?_
                      case hyd25 => (intro w hSw; (try dsimp only at hSw); go_simp; first | done | with_reducible rfl)
                      simp only [Act.put, List.getElem_toArray, List.getElem_cons_succ, List.getElem_cons_zero, List.setIfInBounds_toArray, List.set_cons_zero, List.set_cons_succ]
                      refine wpAnyH_take (i := 26) (v := ?vd26) rfl (by kernel_rfl) (by kernel_rfl) (by kernel_rfl) (fun _ _ _ h => h) (Or.inl ⟨by rfl, ?hyd26⟩) (by assumption) ?_
                      case hyd26 => (intro w hSw; (try dsimp only at hSw); go_simp; first | done | with_reducible rfl)
                      simp only [Act.put, List.getElem_toArray, List.getElem_cons_succ, List.getElem_cons_zero, List.setIfInBounds_toArray, List.set_cons_zero, List.set_cons_succ]
                      refine wpAnyH_take (i := 27) (v := ?vd27) rfl (by kernel_rfl) (by kernel_rfl) (by kernel_rfl) (fun _ _ _ h => h) (Or.inl ⟨by rfl, ?hyd27⟩) (by assumption) ?_
                      case hyd27 => (intro w hSw; (try dsimp only at hSw); go_simp; first | done | with_reducible rfl)
                      simp only [Act.put, List.getElem_toArray, List.getElem_cons_succ, List.getElem_cons_zero, List.setIfInBounds_toArray, List.set_cons_zero, List.set_cons_succ]
                      refine wpAnyH_done (by kernel_rfl) ?_ _
                      go_wp2
                      go_ret
                      exact ⟨ret_bool HE.out.symm, Bw.out.trans (Kt.out.mono Bw.out.size)⟩
              · have hi1 : ¬ (k : Int) < L.length := by omega
                have HE : Hid (r = true) := HRY.out ⟨hX256, by omega, hY256, fun i hi => by rw [← HLe.out] at hi ⊢; exact HJ.out i (by omega)⟩
                go_wp2
                go_ret
                exact ⟨ret_bool HE.out.symm, Bw.out⟩
          go_region_held3 (fun W => W.cell? ⟨w.heap.size + 1, 0, none⟩ = some (.slice ax X.length cx) ∧ W.cell? ⟨w.heap.size + 1, 1, none⟩ = some (.slice (some ⟨yb, yo, none⟩) Y.length cy) ∧ W.cell? ⟨yb, yo, none⟩ = some (.int .i64 y0))
            (first
              | exact HSc.out _ Kd.out
              | exact HSc.out _ (Kd.out.alloc Kd.out.size _)
              | exact HSc.out _ Kx.out
              | exact HSc.out _ (Kx.out.alloc Kx.out.size _)
              | exact HSc.out _ Kz.out
              | exact HSc.out _ (Kz.out.alloc Kz.out.size _)
              | exact HSc.out _ Kf.out)
            (first
              | (go_at_call 56; refine (HCp.out _ Kd.out).mono ?_; rintro e wx ⟨x, rfl, hx, hb⟩; obtain ⟨xa, xc, hxs, _, _⟩ := hx.shape; subst hxs; have O6 := Lib.hid hx.own; have Kx := Lib.hid (Kd.out.trans (hb.mono Kd.out.size)); have hsx := Kx.out.size; clear hx hb)
              | (go_at_call 56; refine (HCp.out _ (Kd.out.alloc Kd.out.size _)).mono ?_; rintro e wx ⟨x, rfl, hx, hb⟩; obtain ⟨xa, xc, hxs, _, _⟩ := hx.shape; subst hxs; have O6 := Lib.hid hx.own; have Kx := Lib.hid ((Kd.out.alloc Kd.out.size (.cells #[.int .i64 y0] 2)).trans (hb.mono (Kd.out.alloc Kd.out.size (.cells #[.int .i64 y0] 2)).size)); have hsx := hb.size; have Z6 : Hid (wx.heap[w2.heap.size]? = some (.cells #[.int .i64 y0] 2 (0, 0))) := (hb.block w2.heap.size (by rw [World.size_alloc, hds]; omega)).trans (heap_alloc_new w2.drew _); rw [World.size_alloc, hds] at hsx; clear hx hb)
              | (refine step_append_lies _ (by rfl) _ _ 27 (by rfl) _ 2 i0 (.int .i64 0) 1 8 Tryz.underlying27 hi hz0 hz1 hz2 rfl (by decide) (.slice xa X.length xc) X.length (X.map (Value.int .i64)) (by rfl) O6.out ⟨yb, yo, none⟩ Y.length cy (Y.map (Value.int .i64)) (by rfl) HYl.out (HYw.out _ Kx.out) (one_of Y) hY1 (by unfold maxLen; omega) (by omega) (by first | exact Kx.out.size | (rw [World.size_alloc, hds]; omega)) wx.heap.size rfl ?_; intro g7 cap7 w7 hown7 hgrow7 hat7 hlt7; have O7 := Lib.hid hown7; have G7 := Lib.hid hgrow7; have A7 := Lib.hid hat7; have hs7 := hgrow7.size; have Kz := Lib.hid (Kx.out.grown hgrow7 Kx.out.size (fun g hg => by have := (O6.out.lt g hg).1; first | exact this | (rw [World.size_alloc, hds] at this; omega))); clear hown7 hgrow7 hat7)
              | (refine step_append_lies _ (by rfl) _ _ 27 (by rfl) _ 2 i0 (.int .i64 0) 1 8 Tryz.underlying27 hi hz0 hz1 hz2 rfl (by decide) (.slice xa X.length xc) X.length (X.map (Value.int .i64)) (by rfl) (O6.out.alloc _) ⟨yb, yo, none⟩ Y.length cy (Y.map (Value.int .i64)) (by rfl) HYl.out (HYw.out _ (Kx.out.alloc Kx.out.size _)) (one_of Y) hY1 (by unfold maxLen; omega) (by omega) (by have := Kx.out.size; rw [World.size_alloc]; omega) (wx.heap.size + 1) (by simp) ?_; intro g7 cap7 w7 hown7 hgrow7 hat7 hlt7; have O7 := Lib.hid hown7; have Z6 : Hid (w7.heap[wx.heap.size]? = some (.cells #[.int .i64 y0] 2 (0, 0))) := (hgrow7.block wx.heap.size (by simp) (fun e => by have := (O6.out.lt _ e.symm).2; omega)).trans (heap_alloc_new wx _); have hs7 := hgrow7.size; have Kz := Lib.hid ((Kx.out.alloc Kx.out.size _).grown hgrow7 (by have := Kx.out.size; simp; omega) (fun g hg => (O6.out.lt g hg).1)); clear hown7 hgrow7 hat7)
              | (refine step_append_lies _ (by rfl) _ _ 27 (by rfl) _ 2 i0 (.int .i64 0) 1 8 Tryz.underlying27 hi hz0 hz1 hz2 rfl (by decide) (.slice (some ⟨g7, 0, none⟩) (X.length + Y.length) cap7) (X.length + Y.length) (X.map (Value.int .i64) ++ Y.map (Value.int .i64)) (by rfl) (O7.out.alloc _) ⟨w7.heap.size, 0, none⟩ 1 1 [.int .i64 y0] (by rfl) (by rfl) (World.news_of_block (cs := #[.int .i64 y0]) (t := 2) (fr := (0, 0)) (heap_alloc_new w7 _)) (by simp [Value.oneCell']) (by omega) (by unfold maxLen; omega) (by omega) (by have := Kz.out.size; have := Kx.out.size; rw [World.size_alloc]; first | omega | (rw [World.size_alloc, hds]; omega)) (w7.heap.size + 1) (by simp) ?_; intro g8 cap8 w8 hown8 hgrow8 hat8 hlt8; have O8 := Lib.hid hown8; have Kf := Lib.hid ((Kz.out.alloc Kz.out.size _).grown hgrow8 (by have := Kz.out.size; simp; omega) (fun g hg => by have := (O7.out.lt g hg).1; first | exact this | (rw [World.size_alloc, hds] at this; omega))); clear hown8 hgrow8 hat8)
              | (refine step_append_lies _ (by rfl) _ _ 27 (by rfl) _ 2 i0 (.int .i64 0) 1 8 Tryz.underlying27 hi hz0 hz1 hz2 rfl (by decide) (.slice (some ⟨g7, 0, none⟩) (X.length + Y.length) cap7) (X.length + Y.length) (X.map (Value.int .i64) ++ Y.map (Value.int .i64)) (by rfl) O7.out ⟨wx.heap.size, 0, none⟩ 1 1 [.int .i64 y0] (by rfl) (by rfl) (World.news_of_block (cs := #[.int .i64 y0]) (t := 2) (fr := (0, 0)) Z6.out) (by simp [Value.oneCell']) (by omega) (by unfold maxLen; omega) (by omega) (by have := Kz.out.size; have := Kx.out.size; first | omega | (rw [World.size_alloc, hds]; omega)) w7.heap.size (by rfl) ?_; intro g8 cap8 w8 hown8 hgrow8 hat8 hlt8; have O8 := Lib.hid hown8; have Kf := Lib.hid (Kz.out.grown hgrow8 Kz.out.size (fun g hg => by have := (O7.out.lt g hg).1; first | exact this | (rw [World.size_alloc, hds] at this; omega))); clear hown8 hgrow8 hat8)
              | (refine step_append_lies _ (by rfl) _ _ 27 (by rfl) _ 2 i0 (.int .i64 0) 1 8 Tryz.underlying27 hi hz0 hz1 hz2 rfl (by decide) (.slice (some ⟨g7, 0, none⟩) (X.length + Y.length) cap7) (X.length + Y.length) (X.map (Value.int .i64) ++ Y.map (Value.int .i64)) (by rfl) O7.out ⟨w2.heap.size, 0, none⟩ 1 1 [.int .i64 y0] (by rfl) (by rfl) (World.news_of_block (cs := #[.int .i64 y0]) (t := 2) (fr := (0, 0)) ((G7.out.block w2.heap.size (by omega) (fun e => by have := (O6.out.lt _ e.symm).1; rw [World.size_alloc, hds] at this; omega)).trans Z6.out)) (by simp [Value.oneCell']) (by omega) (by unfold maxLen; omega) (by omega) (by have := Kz.out.size; have := Kx.out.size; first | omega | (rw [World.size_alloc, hds]; omega)) w7.heap.size (by rfl) ?_; intro g8 cap8 w8 hown8 hgrow8 hat8 hlt8; have O8 := Lib.hid hown8; have Kf := Lib.hid (Kz.out.grown hgrow8 Kz.out.size (fun g hg => by have := (O7.out.lt g hg).1; first | exact this | (rw [World.size_alloc, hds] at this; omega))); clear hown8 hgrow8 hat8))
          all_goals exact HJ _ _ _ _ _ _ _ _ _ O8 Kf

end Go.Proofs.YtokcinhopajniaaGreatDoor
