/-
  Contract of chapter 5: the program's FixedBy.
-/
import Derived.Test.YtjnbpllalbfeiaaFixedSpec
import Derived.Test.YtjnbpllalbfeiaaPlanImpl
import Derived.Test.YtjnbpllalbfeiaaWalks1
namespace Go.Proofs.Ytjnbpllalbfeiaa
open Go.RowKit

set_option maxHeartbeats 8000000 in
set_option maxRecDepth 100000 in
theorem only_is {w : World} {va : Value} {O P : List Int} {zss : List (List Int)} {aP : Option Addr} (cP : Nat) (hPL : P.length = zss.length) (hz0 : 0 < zss.length) (hzl : zss.length ≤ 1048576) (hneg : ∀ v, v < P.length → nth P v = -1 ∨ 0 ≤ nth P v) (h : ArenaAt w va O zss) (hP : IntsAt w aP P) :
    Calls Try.prog 22 #[va, .slice aP P.length cP] w (GivesArena w O (fixK zss P zss.length)) := by
  have HAt := Lib.hid h
  obtain ⟨ao, an, co, cn, A, C, rfl, h1, h2⟩ := h
  have hlP := hP.len
  have HPi := Lib.hid hP
  have HPL := Lib.hid hPL
  have HNG := Lib.hid hneg
  obtain ⟨w1, hw1⟩ : ∃ y, y = (w.alloc (.cells #[.slice ao O.length co, .slice an zss.length cn] 29)).alloc (.cells #[.slice none 0 0, .slice none 0 0] 29) := ⟨_, rfl⟩
  have HW1 := Lib.hid hw1
  have B1 : Hid (Below w.heap.size w w1) := by rw [hw1]; exact below2 _ _ _
  have hs1 : w1.heap.size = w.heap.size + 1 + 1 := by rw [hw1]; simp
  have HS1 := Lib.hid hs1
  have T1 : Hid (Box2 w1 w.heap.size 29 (.slice ao O.length co) (.slice an zss.length cn)) := by rw [hw1]; exact (Box2.new w _ _ _).alloc _
  have R1 : Hid (Box2 w1 (w.heap.size + 1) 29 (.slice none 0 0) (.slice none 0 0)) := by rw [hw1]; exact Box2.new_at (by simp) _ _ _
  have HPF : Hid (∀ v, v < P.length → Fits (nth P v)) := HPi.out.fits
  have HCL := Lib.hid (clone_is (HAt.out.below B1.out) hzl)
  clear hw1 h1 h2 hP hs1 hPL hneg
  go_enter Try.func22, Try.ntmps22
  go_wp2_with fail
  rw [← HW1.out]
  refine HCL.out.mono ?_
  rintro e w3 ⟨va, rfl, hoa, hb⟩
  obtain ⟨vo, vn, V, rfl, ho, hrw, hap⟩ := hoa
  obtain ⟨a1, k1, hs1, _, _⟩ := ho.shape
  obtain ⟨a2, k2, hs2, _, _⟩ := hrw.shape
  subst hs1
  subst hs2
  have B3 := Lib.hid (B1.out.trans (hb.mono B1.out.size))
  have R3 := Lib.hid (R1.out.below hb)
  obtain ⟨w4, hw4⟩ : ∃ y, y = w3.alloc (.cells #[.slice a1 O.length k1, .slice a2 zss.length k2] 29) := ⟨_, rfl⟩
  have HW4 := Lib.hid hw4
  have hb34 : Below w3.heap.size w3 w4 := by rw [hw4]; exact below1 _ _
  have S4 : Hid (Half4 w1.heap.size w4 w3.heap.size (.slice a1 O.length k1) (.slice a2 zss.length k2) V O (fixK zss P 0)) := by
    rw [fixK_zero]
    exact ⟨hb.size, by rw [hw4]; exact Box2.new _ _ _ _, (ho.below hb34).retop, (hrw.below hb34).retop, hap⟩
  have R4 := Lib.hid (R3.out.below hb34)
  have B4 := Lib.hid (B3.out.trans (hb34.mono B3.out.size))
  clear hb ho hrw hap hb34 hw4
  go_wp2
  rw [← HW4.out]
  go_loopw [12] (fun iv wr => ∃ (k : Nat) (V : Nat → Value), k ≤ P.length ∧ iv = .int .i64 k ∧ Hid (Half4 w1.heap.size wr w3.heap.size (.slice a1 O.length k1) (.slice a2 zss.length k2) V O (fixK zss P k)) ∧ Hid (Only (fun b => w1.heap.size ≤ b) w4 wr)) (fun iv _ => P.length - (intOf iv).toNat)
  case atStart => exact ⟨0, V, Nat.zero_le _, rfl, S4, Only.refl _ _⟩
  case round =>
    clear S4
    obtain ⟨k, V, hk, rfl, HS, HO⟩ := hrel
    have Bw := Lib.hid (B4.out.trans (HO.out.below (B := w.heap.size) B4.out.size (fun b hb => by have := B1.out.size; omega)))
    by_cases hlt : k < P.length
    · have hi1 : (k : Int) < P.length := by omega
      have hkz : k < zss.length := by have := HPL.out; omega
      have hi2 : (k : Int) < zss.length := by omega
      have hk0 : (0 : Int) ≤ (k : Int) := by omega
      obtain ⟨pb, po, hpa, hpc⟩ := (HPi.out.below Bw.out).cell (by omega)
      have p1 := hpc k hlt
      obtain ⟨q, hq⟩ : ∃ q, q = nth P k := ⟨_, rfl⟩
      have HQ := Lib.hid hq
      have hqf : Fits q := by rw [hq]; exact HPF.out k hlt
      have hqn : q = -1 ∨ 0 ≤ q := by rw [hq]; exact HNG.out k hlt
      rw [← hq] at p1
      by_cases h0 : q = -1
      · have hq1 : (q != -1) = false := by simpa using h0
        have HSn : Hid (Half4 w1.heap.size wr w3.heap.size (.slice a1 O.length k1) (.slice a2 zss.length k2) V O (fixK zss P (k + 1))) := by
          rw [← fixK_same (by rw [← HQ.out]; omega)]; exact HS.out
        subst hpa
        clear hpc hq h0 hqn hqf
        go_wp2
        go_roundw
        case rel => exact ⟨k + 1, V, by omega, by go_num, HSn, HO⟩
        case measure => simp [intOf]; omega
      · have hq1 : (q != -1) = true := by simpa using h0
        have hq0 : 0 ≤ q := by omega
        obtain ⟨g, cap, hvn, hgn⟩ := HS.out.head (by rw [fixK_len]; exact hz0)
        rw [fixK_len] at hvn
        simp only [Value.slice.injEq, true_and] at hvn
        obtain ⟨rfl, rfl⟩ := hvn
        have HS' := HS
        rw [← fixK_len zss P k] at HS'
        obtain ⟨hrc, hrf⟩ := HS'.out.rcell (v := k) (by rw [fixK_len]; exact hkz)
        obtain ⟨ub, uc, hV, _, _⟩ := (HS.out.rows.rows k (by rw [fixK_len]; exact hkz)).shape
        obtain ⟨w5, hw5⟩ : ∃ y, y = wr.alloc (.cells #[.int .i64 q] 2) := ⟨_, rfl⟩
        have hb5 : Below wr.heap.size wr w5 := by rw [hw5]; exact below1 _ _
        have hput := HS'.out.putRow (v := k) (zs := [q]) (w7 := w5) (u := .slice (some ⟨wr.heap.size, 0, none⟩) 1 1) (by rw [fixK_len]; exact hkz) (Only.of_below hb5)
          (by rw [hw5]; exact ((own_new wr q hqf).retop).base (by have := HO.out.size; have := HS.out.base; have := HS.out.str.lt; omega)) (.inr ⟨_, rfl, Nat.le_refl _⟩)
        rw [HQ.out, fixK_put hkz (by rw [← HQ.out]; exact hq0), fixK_len] at hput
        have HPUT := Lib.hid hput
        have HON := Lib.hid (HO.out.trans hput.2)
        have t1 := HS.out.str.cell1
        have t1a := (HS.out.str.alloc (.cells #[.int .i64 q] 2)).cell1
        have hrcA := Below.cell_some (B := 0) (below1 wr (.cells #[.int .i64 q] 2)) rfl hrc
        have hrfA : (wr.alloc (.cells #[.int .i64 q] 2)).frozen? ⟨g, k, none⟩ = false := ((HS'.out.keep (below1 wr (.cells #[.int .i64 q] 2))).rcell (v := k) (by rw [fixK_len]; exact hkz)).2
        rw [hV] at hrc hrcA
        rw [hw5] at HPUT HON
        subst hpa
        clear hpc hq h0 hqn hqf hput hw5 hb5 hV
        go_wp2
        clear t1 t1a hrc hrcA hrf hrfA
        go_roundw
        case rel => exact ⟨k + 1, _, by omega, by go_num, HPUT.out.1, HON⟩
        case measure => simp [intOf]; omega
    · have hi1 : ¬ (k : Int) < P.length := by omega
      have hkk : k = zss.length := by have := HPL.out; omega
      have Rw := Lib.hid (R4.out.only HO.out (by have := HS1.out; omega))
      have d0 := Rw.out.cell0
      have d1 := Rw.out.cell1
      have g0 := Rw.out.frozen 0
      have g1 := Rw.out.frozen 1
      have t0 := HS.out.str.cell0
      have t1 := HS.out.str.cell1
      rw [hkk] at HS
      have hS : Only (fun b => b = w.heap.size + 1) wr ((wr.setCell ⟨w.heap.size + 1, 0, none⟩ (.slice a1 O.length k1)).setCell ⟨w.heap.size + 1, 1, none⟩ (.slice a2 zss.length k2)) := (Box2.set0_only _).trans (Box2.set1_only _)
      have hfin : Hid (OwnArena ((wr.setCell ⟨w.heap.size + 1, 0, none⟩ (.slice a1 O.length k1)).setCell ⟨w.heap.size + 1, 1, none⟩ (.slice a2 zss.length k2)) w.heap.size ((wr.setCell ⟨w.heap.size + 1, 0, none⟩ (.slice a1 O.length k1)).setCell ⟨w.heap.size + 1, 1, none⟩ (.slice a2 zss.length k2)).heap.size (.agg #[.slice a1 O.length k1, .slice a2 zss.length k2]) O (fixK zss P zss.length)) :=
        ⟨_, _, V, rfl, ((HS.out.ints.only hS (fun g hg e => Rw.out.not_own HS.out.ints.own (by decide) (by rw [hg, e]))).retop.base B1.out.size), ((HS.out.rows.only hS (fun g hg e => Rw.out.not_own HS.out.rows.own (by decide) (by rw [hg, e])) (fun k hk g hg e => Rw.out.not_own (HS.out.rows.rows k hk).own (by decide) (by rw [hg, e]))).retop.base B1.out.size), HS.out.apart⟩
      clear hkk HS
      go_wp2
      exact bodyPost_ret (v := .agg #[.slice a1 O.length k1, .slice a2 zss.length k2]) (by simp [results, Try.results22, go_sem, d0, d1]) rfl
        ⟨_, rfl, hfin.out, Bw.out.trans (hS.below (B := w.heap.size) Bw.out.size (fun b hb => by omega))⟩

end Go.Proofs.Ytjnbpllalbfeiaa
