/-
  Contracts: slices.Compare of three numbers; how two valued worths compare.
-/
import Derived.Test.YtihaajcmephlmaaValued
namespace Go.Proofs.Ytihaajcmephlmaa
section
open Go.RowKit Go.Shelf

theorem cmp3_at {a b : List Int} {r : Int} (hr : cmp3 (nth a 0) (nth a 1) (nth a 2) (nth b 0) (nth b 1) (nth b 2) = r) {k : Nat} (hk : k < 3) (h : ∀ j, j < k → nth a j = nth b j) (hne : cmpI (nth a k) (nth b k) ≠ 0) : cmpI (nth a k) (nth b k) = r := by
  unfold cmp3 at hr
  have h3 : k = 0 ∨ k = 1 ∨ k = 2 := by omega
  rcases h3 with rfl | rfl | rfl
  · rw [if_neg hne] at hr; exact hr
  · rw [if_pos ((cmpI_zero _ _).2 (h 0 (by omega))), if_neg hne] at hr; exact hr
  · rw [if_pos ((cmpI_zero _ _).2 (h 0 (by omega))), if_pos ((cmpI_zero _ _).2 (h 1 (by omega)))] at hr; exact hr
theorem cmp3_end {a b : List Int} {r : Int} (hr : cmp3 (nth a 0) (nth a 1) (nth a 2) (nth b 0) (nth b 1) (nth b 2) = r) (h : ∀ j, j < 3 → nth a j = nth b j) : r = 0 := by
  unfold cmp3 at hr
  rw [if_pos ((cmpI_zero _ _).2 (h 0 (by omega))), if_pos ((cmpI_zero _ _).2 (h 1 (by omega))), (cmpI_zero _ _).2 (h 2 (by omega))] at hr
  exact hr.symm

set_option maxHeartbeats 4000000 in
theorem Compare3_is {w : World} {a b : List Int} {ga gb : Nat} {r : Int} (hr : cmp3 (nth a 0) (nth a 1) (nth a 2) (nth b 0) (nth b 1) (nth b 2) = r) (ha : ∀ j, j < 3 → w.cell? ⟨ga, 3 + j, none⟩ = some (.int .i64 (nth a j))) (hb : ∀ j, j < 3 → w.cell? ⟨gb, 3 + j, none⟩ = some (.int .i64 (nth b j))) :
    Calls Try.prog 73 #[.slice (some ⟨ga, 3, none⟩) 3 3, .slice (some ⟨gb, 3, none⟩) 3 3] w fun e w' => e = .returned (.int .i64 r) ∧ w = w' := by
  have HA := Lib.hid ha
  have HB := Lib.hid hb
  have HR := Lib.hid hr
  clear ha hb hr
  go_enter Try.func73, Try.ntmps73
  go_wp2
  go_loopw [11] (fun iv wr => ∃ k : Nat, k ≤ 3 ∧ iv = .int .i64 k ∧ Hid (∀ j, j < k → nth a j = nth b j) ∧ w = wr) (fun iv _ => 3 - (intOf iv).toNat)
  case atStart => exact ⟨0, Nat.zero_le _, rfl, fun j hj => absurd hj (Nat.not_lt_zero _), rfl⟩
  case round =>
    obtain ⟨k, hk, rfl, HJ, rfl⟩ := hrel
    by_cases hlt : k < 3
    · have hi1 : (k : Int) < 3 := by omega
      have hk0 : (0 : Int) ≤ (k : Int) := by omega
      have hge : ¬ (3 : Int) ≤ (k : Int) := by omega
      have x1 := HA.out k hlt
      have y1 := HB.out k hlt
      have HM := Lib.hid (cmp8_is (x := nth a k) (y := nth b k) (v := cmpI (nth a k) (nth b k)) rfl w)
      have HAT := Lib.hid (cmp3_at HR.out hlt HJ.out)
      have HZ := Lib.hid (cmpI_zero (nth a k) (nth b k))
      obtain ⟨x, hx⟩ : ∃ x, x = nth a k := ⟨_, rfl⟩
      obtain ⟨y, hy⟩ : ∃ y, y = nth b k := ⟨_, rfl⟩
      have HX := Lib.hid hx
      have HY := Lib.hid hy
      rw [← hx] at x1 HM HAT HZ
      rw [← hy] at y1 HM HAT HZ
      obtain ⟨c, hc⟩ : ∃ c, c = cmpI x y := ⟨_, rfl⟩
      rw [← hc] at HM HAT HZ
      clear hx hy hc
      by_cases hc0 : c = 0
      · subst hc0
        have HJn : Hid (∀ j, j < k + 1 → nth a j = nth b j) := fun j hj => by
          by_cases e : j = k
          · rw [e, ← HX.out, ← HY.out]; exact HZ.out.1 rfl
          · exact HJ.out j (by omega)
        go_wp2_with (go_at_call 79; refine HM.out.mono ?_; rintro e w' ⟨rfl, rfl⟩)
        go_roundw
        case rel => exact ⟨k + 1, by omega, by go_num, HJn, by first | rfl | trivial⟩
        case measure => simp [intOf]; omega
      · have hcn : (c != 0) = true := by simpa using hc0
        have HE : Hid (c = r) := HAT.out hc0
        go_wp2_with (go_at_call 79; refine HM.out.mono ?_; rintro e w' ⟨rfl, rfl⟩)
        go_ret
        exact ⟨ret_i64 HE.out, rfl⟩
    · have hi1 : ¬ (k : Int) < 3 := by omega
      have HE : Hid ((0 : Int) = r) := (cmp3_end HR.out (fun j hj => HJ.out j (by omega))).symm
      go_wp2
      go_ret
      exact ⟨ret_i64 HE.out, rfl⟩

set_option linter.unusedSimpArgs false in
set_option maxRecDepth 100000 in
set_option maxHeartbeats 8000000 in
theorem valuedCompare_is {w : World} {xh xy x0 x1 x2 yh yy y0 y1 y2 r : Int} {xa ya : Option Addr} {xn xc yn yc : Nat} (hr : cmp3 x0 x1 x2 y0 y1 y2 = r) :
    Calls Try.prog 40 #[.agg #[.int .i64 xh, .slice xa xn xc, .int .i64 xy, .int .i64 x0, .int .i64 x1, .int .i64 x2], .agg #[.int .i64 yh, .slice ya yn yc, .int .i64 yy, .int .i64 y0, .int .i64 y1, .int .i64 y2]] w fun e w' => e = .returned (.int .i64 r) ∧ Below w.heap.size w w' := by
  obtain ⟨w1, hw1⟩ : ∃ q, q = (w.alloc (.cells #[.int .i64 xh, .slice xa xn xc, .int .i64 xy, .int .i64 x0, .int .i64 x1, .int .i64 x2] 73)).alloc (.cells #[.int .i64 yh, .slice ya yn yc, .int .i64 yy, .int .i64 y0, .int .i64 y1, .int .i64 y2] 73) := ⟨_, rfl⟩
  have HW1 := Lib.hid hw1
  have B1 : Hid (Below w.heap.size w w1) := by rw [hw1]; exact below2 _ _ _
  have RA : w1.rowIs w.heap.size 73 6 (lf [.int .i64 xh, .slice xa xn xc, .int .i64 xy, .int .i64 x0, .int .i64 x1, .int .i64 x2]) := by rw [hw1]; exact World.rowIs.alloc (lf_at rfl [.int .i64 xh, .slice xa xn xc, .int .i64 xy, .int .i64 x0, .int .i64 x1, .int .i64 x2] _) _
  have RB : w1.rowIs (w.heap.size + 1) 73 6 (lf [.int .i64 yh, .slice ya yn yc, .int .i64 yy, .int .i64 y0, .int .i64 y1, .int .i64 y2]) := by rw [hw1]; exact lf_at (by simp) [.int .i64 yh, .slice ya yn yc, .int .i64 yy, .int .i64 y0, .int .i64 y1, .int .i64 y2] _
  have HC := Lib.hid (fun q => Compare3_is (w := w1.drewN q) (a := [x0, x1, x2]) (b := [y0, y1, y2]) (ga := w.heap.size) (gb := w.heap.size + 1) hr
    (fun j hj => by
      have h3 : j = 0 ∨ j = 1 ∨ j = 2 := by omega
      rcases h3 with rfl | rfl | rfl
      · exact (rowIs_drewN8 RA q).cell (i := 3) (by omega)
      · exact (rowIs_drewN8 RA q).cell (i := 4) (by omega)
      · exact (rowIs_drewN8 RA q).cell (i := 5) (by omega))
    (fun j hj => by
      have h3 : j = 0 ∨ j = 1 ∨ j = 2 := by omega
      rcases h3 with rfl | rfl | rfl
      · exact (rowIs_drewN8 RB q).cell (i := 3) (by omega)
      · exact (rowIs_drewN8 RB q).cell (i := 4) (by omega)
      · exact (rowIs_drewN8 RB q).cell (i := 5) (by omega)))
  clear hw1 RA RB hr
  go_enter Try.func40, Try.ntmps40
  go_wp2
  rw [← HW1.out]
  go_quiet ((go_at_call 73; exact quiet_eq (HC.out _)))
  go_wp2
  go_ret
  exact ⟨rfl, below_drewN B1.out _⟩
end
end Go.Proofs.Ytihaajcmephlmaa
