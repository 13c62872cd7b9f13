/-
  Several texts in one: Outcome, WonVal, Trap1, PlanImpl, FixedImpl, Cat1, Distinct, SameParity, Inside.
-/
import Derived.Deep.RegionHeld3
import Derived.Maps.AppendAt
import Derived.Shelf.SlGeneric
import Derived.Shelf.SortM.Plain
import Derived.Shelf.SortM.SortNone
import Derived.Ground.SlgmProg
import Derived.Test.YtphkgnpkcfbnkabDoorProg
import Derived.Sort.OwnSortedInts
import Derived.Shelf.SlicesE.Compact
import Derived.Ground.SlgnProg
import Derived.Lib.AppendZeros
import Derived.Lib.OwnBridge
import Derived.RangeFuncBox
import Derived.RangeFuncLeaves
import Derived.RangeFuncBound
import Derived.Shelf.Abstract
import Derived.WalkKit
import Derived.OwnWalkIn
import Derived.TacticsInMore
import Derived.LoopNIn
import Derived.LoopIn
import Derived.Test.YtphkgnpkcfbnkabDoorBase1
import Derived.Test.YtphkgnpkcfbnkabDoorPk03
import Derived.Test.YtphkgnpkcfbnkabDoorParity1
import Derived.Test.YtphkgnpkcfbnkabDoorPk05
import Derived.Test.YtphkgnpkcfbnkabDoorPk07
import Derived.Test.YtphkgnpkcfbnkabDoorPk10
import Derived.Test.YtphkgnpkcfbnkabDoorPk13
import Derived.Test.YtphkgnpkcfbnkabDoorNewRec
namespace Go.Proofs.YtphkgnpkcfbnkabDoor
section
open Go.RowKit Go.Shelf
attribute [local go_sem] Oper.semAt_some

theorem ofL_up (n : Nat) : ofL (upL n) = allI n := funext fun v => by
  rw [Bool.eq_iff_iff, ofL_iff]
  unfold allI upL
  rw [decide_eq_true_eq, List.mem_map]
  constructor
  · rintro ⟨i, hi, e⟩
    have := List.mem_range.1 hi
    have : (i : Int) = (v : Int) := e
    omega
  · intro h
    exact ⟨v, List.mem_range.2 h, rfl⟩

/-- What each player wins. -/
noncomputable def wonM (zss : List (List Int)) (O P : List Int) (who : Int) : Nat → Bool := outB zss O (nth P) (allI O.length) who

theorem maskOf_up {w : World} {a : Option Addr} {n : Nat} (hI : IntsAt w a (upL n)) (hn : n ≤ 256) : Calls Tryd.prog 74 #[.slice a n n] w fun e w' => e = .returned (maskV (allI n)) ∧ Below w.heap.size w w' := by
  have h := maskOf_is n hI (fun x hx => by
    obtain ⟨u, hu, hu2⟩ := up_mem x hx
    exact ⟨u, hu, by omega⟩) (by rw [upL_len]; omega)
  rw [upL_len, ofL_up] at h
  exact h

theorem ret_outs {fn : Func} {p : Tmp} {tmps : Array Value} {W : World} {g : Nat} {I J : Nat → Bool} {R : Ending → World → Prop} (hr : fn.results = #[.cell p 69]) (hp : tmps.getD p undef = .pointer (some ⟨g, 0, none⟩))
    (hM : OutAt W g I J) (hR : R (.returned (outcV I J)) W) : bodyPost Tryd.prog fn R .ret { tmps := tmps, defers := [] } W :=
  bodyPost_ret (v := outcV I J) (results_cell_row hr tmps _ g _ _ _ (.array 2 67) hp hM (by kernel_rfl) rfl (by kernel_rfl)) rfl hR

set_option linter.unusedSimpArgs false in
set_option maxRecDepth 100000 in
set_option maxHeartbeats 16000000 in
theorem outcomeOf_is {w : World} {v : Value} {O P : List Int} {zss : List (List Int)} (hT : TabW w) (h : GameAt w v O zss P) (hp : parityB O zss P = true) :
    Calls Tryd.prog 56 #[v] w fun e w' => e = .returned (outcV (wonM zss O P 0) (wonM zss O P 1)) ∧ Below w.heap.size w w' := by
  unfold wonM
  have HGm := Lib.hid h
  have HT := Lib.hid hT
  obtain ⟨hA, hPl, hPr⟩ := parityB_iff.1 hp
  have hzl := hA.2.2.1
  have HGO := Lib.hid (gameE_of hp)
  have HLV := Lib.hid (levE_of hp)
  have HTO : Hid (TotalP zss (allI O.length)) := by
    have := total_all hA
    rw [hzl] at this
    exact this
  obtain ⟨ao, an, ap, co, cn, cp, A, C, rfl, h1, h2, h3⟩ := h
  have HPP := Lib.hid hp
  obtain ⟨n, hn⟩ : ∃ n, n = O.length := ⟨_, rfl⟩
  have hn2 : n ≤ 256 := by have := hA.2.1; omega
  have hn6 : n ≤ 17592186044416 := by omega
  rw [← hn] at hPl hzl HGO HLV HTO
  have HNR := fun (W : World) (hb : Below w.heap.size w W) => newRecursion_is (OutQ zss O (nth P)) (HT.out.below hb) (HGm.out.below hb) HPP.out
  rw [← hn] at HNR
  simp only [hzl, hPl] at HNR
  have HNR := Lib.hid HNR
  rw [← hn, hzl, hPl]
  clear hA hPr h1 h2 h3 hn hzl hPl hp hT HGm
  go_enter Tryd.func56, Tryd.ntmps56
  go_wp2_with fail
  obtain ⟨w1, hw1⟩ : ∃ y, y = (w.alloc (.cells #[.slice ao n co, .slice an n cn, .slice ap n cp] 32)).alloc (.cells #[.int .u64 0, .int .u64 0, .int .u64 0, .int .u64 0, .int .u64 0, .int .u64 0, .int .u64 0, .int .u64 0] 69) := ⟨_, rfl⟩
  rw [← hw1]
  have HB1 : Hid (Below w.heap.size w w1) := by rw [hw1]; exact below2 _ _ _
  have HF1 : Hid (Flat3 w1 w.heap.size 32 (.slice ao n co) (.slice an n cn) (.slice ap n cp)) := by rw [hw1]; exact (Flat3.new _ _ _ _ _).below (below1 _ _)
  have HO1 : Hid (OutAt w1 (w.heap.size + 1) (fun _ => false) (fun _ => false)) := by
    rw [hw1, out_zero]
    exact out_new_at _ _ _ (by simp)
  clear hw1
  have HSw : Hid (∀ W', Below w1.heap.size w1 W' → W'.cell? ⟨w.heap.size, 0, none⟩ = some (.slice ao n co) ∧ W'.cell? ⟨w.heap.size, 1, none⟩ = some (.slice an n cn) ∧ W'.cell? ⟨w.heap.size, 2, none⟩ = some (.slice ap n cp)) := fun W' hb => ⟨(HF1.out.below hb).c0, (HF1.out.below hb).c1, (HF1.out.below hb).c2⟩
  have Kd : Hid (Below w1.heap.size w1 w1.drew) := (Below.refl _ _).drew
  have hsd : w1.drew.heap.size = w1.heap.size := rfl
  refine wp_region_M (S := (fun W' => W'.cell? ⟨w.heap.size, 0, none⟩ = some (.slice ao n co) ∧ W'.cell? ⟨w.heap.size, 1, none⟩ = some (.slice an n cn) ∧ W'.cell? ⟨w.heap.size, 2, none⟩ = some (.slice ap n cp))) (m := 8) (by kernel_rfl) (HSw.out _ Kd.out) (fun hHeld => ?_)
  refine wpAnyM_take (i := 0) (v := ?vm1) rfl (by kernel_rfl) (by decide) (by kernel_rfl) (by kernel_rfl) (by kernel_rfl) (fun _ _ _ h => h) (Or.inl ⟨by rfl, ?hm1⟩) (by assumption) ?_
  case hm1 => (intro w hSw; (try dsimp only at hSw); go_simp; first | done | with_reducible rfl)
  try simp only [Act.put, List.setIfInBounds_toArray, List.set_cons_zero, List.set_cons_succ]
  refine wpAnyM_take (i := 2) (v := ?vm2) rfl (by kernel_rfl) (by decide) (by kernel_rfl) (by kernel_rfl) (by kernel_rfl) (fun _ _ _ h => h) (Or.inl ⟨by rfl, ?hm2⟩) (by assumption) ?_
  case hm2 => (intro w hSw; (try dsimp only at hSw); go_simp; first | done | with_reducible rfl)
  try simp only [Act.put, List.setIfInBounds_toArray, List.set_cons_zero, List.set_cons_succ]
  refine wpAnyM_take (i := 3) (v := ?vm3) rfl (by kernel_rfl) (by decide) (by kernel_rfl) (by kernel_rfl) (by kernel_rfl) (fun _ _ _ h => h) (Or.inl ⟨by rfl, ?hm3⟩) (by assumption) ?_
  case hm3 => (intro w hSw; (try dsimp only at hSw); go_simp; first | done | with_reducible rfl)
  try simp only [Act.put, List.setIfInBounds_toArray, List.set_cons_zero, List.set_cons_succ]
  refine wpAnyM_one (i := 1) (by kernel_rfl) rfl (fun K hK => ?_)
  go_simp
  go_at_call 63
  refine (HNR.out w1.drew (HB1.out.trans (Kd.out.mono HB1.out.size))).mono ?_
  rintro e wa ⟨b, nb, pb, kb, rfl, hR, hFn, hFp, hM, hge, hb⟩
  have hR := Lib.hid hR
  have hM := Lib.hid hM
  have Ka := Lib.hid (Kd.out.trans (hb.mono Kd.out.size))
  clear hb
  go_wp2_with fail
  refine hK.out _ _ (fun _ => HSw.out _ Ka.out) (fun hHeld => ?_)
  have hHeld := hHeld (by decide)
  clear hK K
  try simp only [Act.put, List.setIfInBounds_toArray, List.set_cons_zero, List.set_cons_succ]
  refine wpAnyM_one (i := 4) (by kernel_rfl) rfl (fun K hK => ?_)
  go_simp
  go_at_call 64
  refine (size_is ao an n n co cn wa hn6).mono ?_
  rintro e wb ⟨rfl, hwb⟩
  have hb : Below wa.heap.size wa wb := by rw [← hwb]; exact below1 _ _
  have hR2 := Lib.hid (hR.out.below hb)
  have hM2 := Lib.hid (hM.out.below hb)
  have Kb := Lib.hid (Ka.out.trans (hb.mono Ka.out.size))
  clear hb hwb
  go_wp2_with fail
  refine hK.out _ _ (fun _ => HSw.out _ Kb.out) (fun hHeld => ?_)
  have hHeld := hHeld (by decide)
  clear hK K
  try simp only [Act.put, List.setIfInBounds_toArray, List.set_cons_zero, List.set_cons_succ]
  refine wpAnyM_one (i := 5) (by kernel_rfl) rfl (fun K hK => ?_)
  go_simp
  go_at_call 104
  refine (upTo_is n (by omega) wb).mono ?_
  rintro e wc ⟨rfl, hI, hb⟩
  have hI := Lib.hid hI
  have hR3 := Lib.hid (hR2.out.below hb)
  have hM3 := Lib.hid (hM2.out.below hb)
  have Kc := Lib.hid (Kb.out.trans (hb.mono Kb.out.size))
  clear hb
  go_wp2_with fail
  refine hK.out _ _ (fun _ => HSw.out _ Kc.out) (fun hHeld => ?_)
  have hHeld := hHeld (by decide)
  clear hK K
  try simp only [Act.put, List.setIfInBounds_toArray, List.set_cons_zero, List.set_cons_succ]
  refine wpAnyM_one (i := 6) (by kernel_rfl) rfl (fun K hK => ?_)
  go_simp
  go_at_call 74
  refine (maskOf_up hI.out hn2).mono ?_
  rintro e wd ⟨rfl, hb⟩
  have hR4 := Lib.hid (hR3.out.below hb)
  have hM4 := Lib.hid (hM3.out.below hb)
  have Kx := Lib.hid (Kc.out.trans (hb.mono Kc.out.size))
  clear hb
  go_wp2_with fail
  refine hK.out _ _ (fun _ => HSw.out _ Kx.out) (fun hHeld => ?_)
  have hHeld := hHeld (by decide)
  clear hK K
  try simp only [Act.put, List.setIfInBounds_toArray, List.set_cons_zero, List.set_cons_succ]
  refine wpAnyM_one (i := 7) (by kernel_rfl) rfl (fun K hK => ?_)
  go_simp
  go_at_call 103
  refine (solve_is HGO.out HLV.out _ (allI n) (Nat.lt_succ_self _) (fun x hx => by unfold allI at hx; simpa using hx) HTO.out wd (HT.out.below (HB1.out.trans (Kx.out.mono HB1.out.size))) hR4.out hM4.out).mono ?_
  rintro e we ⟨rfl, ho, hm⟩
  have hsx := Kx.out.size
  have Ke : Hid (Below w1.heap.size w1 we) := ((Only.of_below (S := fun k => w1.heap.size ≤ k) Kx.out).trans (ho.mono fun k hk => by omega)).below (Nat.le_refl _) (fun k h => h)
  clear ho hm
  go_wp2_with fail
  refine hK.out _ _ (fun _ => HSw.out _ Ke.out) (fun hHeld => ?_)
  have hHeld := hHeld (by decide)
  clear hK K
  try simp only [Act.put, List.setIfInBounds_toArray, List.set_cons_zero, List.set_cons_succ]
  refine wpAnyM_one (i := 8) (by kernel_rfl) rfl (fun K hK => ?_)
  rw [if_pos (by kernel_rfl)]
  have bO := Lib.hid (HO1.out.below Ke.out)
  refine wp_store_row 69 _ _ rfl (w.heap.size + 1) (wordsA (outB zss O (nth P) (allI n) 0) (outB zss O (nth P) (allI n) 1)) rfl rfl 69 (wordsA (fun _ => false) (fun _ => false)) bO.out (by kernel_rfl) (by simp) (by simp [Value.oneCell']) ?_
  refine hK.out _ _ (fun h => absurd h (by decide)) (fun _ => ?_)
  clear hK K
  try simp only [Act.put, List.setIfInBounds_toArray, List.set_cons_zero, List.set_cons_succ]
  refine wpAnyM_done (by kernel_rfl) ?_ _
  have bZ : Hid (OutAt (we.setRow (w.heap.size + 1) (wordsA (outB zss O (nth P) (allI n) 0) (outB zss O (nth P) (allI n) 1))) (w.heap.size + 1) (outB zss O (nth P) (allI n) 0) (outB zss O (nth P) (allI n) 1)) := bO.out.row8 _ _
  have bB : Hid (Below w.heap.size w (we.setRow (w.heap.size + 1) (wordsA (outB zss O (nth P) (allI n) 0) (outB zss O (nth P) (allI n) 1)))) := (only_row (S := fun k => w.heap.size ≤ k) (Only.of_below (HB1.out.trans (Ke.out.mono HB1.out.size))) (by omega) _).below (Nat.le_refl _) (fun k h => h)
  go_wp2_with fail
  exact ret_outs (g := w.heap.size + 1) rfl rfl bZ.out ⟨rfl, bB.out⟩
end
end Go.Proofs.YtphkgnpkcfbnkabDoor
namespace Go.Proofs.YtphkgnpkcfbnkabDoor
section
open Go.RowKit Go.Shelf

section
variable {O P : List Int} {zss : List (List Int)} {who : Int} {v : Nat}
theorem wonM_at (hz : zss.length = O.length) (hv : v < O.length) : wonM zss O P who v = (wonZ zss O P v == decide (who = 0)) := by
  unfold wonM outB regZ wonZ allI
  rw [hz]
  simp [hv]
theorem wonM_lt (h : wonM zss O P who v = true) : v < O.length := by
  have := outB_sub h
  unfold allI at this
  simpa using this
theorem wonM_won (hz : zss.length = O.length) (hw : who = 0 ∨ who = 1) (hv : v < O.length) : wonM zss O P who v = true ↔ nth (wonL zss O P) v = who := by
  rw [wonM_at hz hv, wonL_nth (by omega)]
  rcases hw with rfl | rfl <;> cases wonZ zss O P v <;> simp
theorem wonL_one (hz : zss.length = O.length) (hv : v < O.length) : nth (wonL zss O P) v = if wonM zss O P 1 v = true then 1 else 0 := by
  rw [wonM_at hz hv, wonL_nth (by omega)]
  cases wonZ zss O P v <;> simp
theorem rising_eq {xs ys : List Int} (hx : xs.Pairwise (· < ·)) (hy : ys.Pairwise (· < ·)) (h : ∀ x, x ∈ xs ↔ x ∈ ys) : xs = ys := rising_ext hx hy h
end
end
end Go.Proofs.YtphkgnpkcfbnkabDoor
namespace Go.Proofs.YtphkgnpkcfbnkabDoor
section
section
open Go.RowKit

end

section
open Go.RowKit

end

section
open Go.RowKit

end
end

section
open Go.RowKit

end

section
section
open Go.RowKit

end

section
open Go.RowKit

end
end

end Go.Proofs.YtphkgnpkcfbnkabDoor
namespace Go.Proofs.YtphkgnpkcfbnkabDoor
open Go.RowKit

end Go.Proofs.YtphkgnpkcfbnkabDoor
namespace Go.Proofs.YtphkgnpkcfbnkabDoor
open Go.RowKit

set_option maxHeartbeats 8000000 in
set_option maxRecDepth 100000 in
theorem only_is {w : World} {va : Value} {O P : List Int} {zss : List (List Int)} {aP : Option Addr} (cP : Nat) (hPL : P.length = zss.length) (hz0 : 0 < zss.length) (hzl : zss.length ≤ 1048576) (hneg : ∀ v, v < P.length → nth P v = -1 ∨ 0 ≤ nth P v) (h : ArenaAt w va O zss) (hP : IntsAt w aP P) :
    Calls Tryd.prog 102 #[va, .slice aP P.length cP] w (GivesArena w O (fixK zss P zss.length)) := by
  have HAt := Lib.hid h
  obtain ⟨ao, an, co, cn, A, C, rfl, h1, h2⟩ := h
  have hlP := hP.len
  have HPi := Lib.hid hP
  have HPL := Lib.hid hPL
  have HNG := Lib.hid hneg
  obtain ⟨w1, hw1⟩ : ∃ y, y = (w.alloc (.cells #[.slice ao O.length co, .slice an zss.length cn] 30)).alloc (.cells #[.slice none 0 0, .slice none 0 0] 30) := ⟨_, rfl⟩
  have HW1 := Lib.hid hw1
  have B1 : Hid (Below w.heap.size w w1) := by rw [hw1]; exact below2 _ _ _
  have hs1 : w1.heap.size = w.heap.size + 1 + 1 := by rw [hw1]; simp
  have HS1 := Lib.hid hs1
  have T1 : Hid (Box2 w1 w.heap.size 30 (.slice ao O.length co) (.slice an zss.length cn)) := by rw [hw1]; exact (Box2.new w _ _ _).alloc _
  have R1 : Hid (Box2 w1 (w.heap.size + 1) 30 (.slice none 0 0) (.slice none 0 0)) := by rw [hw1]; exact Box2.new_at (by simp) _ _ _
  have HPF : Hid (∀ v, v < P.length → Fits (nth P v)) := HPi.out.fits
  have HCL := Lib.hid (clone_is (HAt.out.below B1.out) hzl)
  clear hw1 h1 h2 hP hs1 hPL hneg
  go_enter Tryd.func102, Tryd.ntmps102
  go_wp2_with fail
  rw [← HW1.out]
  refine HCL.out.mono ?_
  rintro e w3 ⟨va, rfl, hoa, hb⟩
  obtain ⟨vo, vn, V, rfl, ho, hrw, hap⟩ := hoa
  obtain ⟨a1, k1, hs1, _, _⟩ := ho.shape
  obtain ⟨a2, k2, hs2, _, _⟩ := hrw.shape
  subst hs1
  subst hs2
  have B3 := Lib.hid (B1.out.trans (hb.mono B1.out.size))
  have R3 := Lib.hid (R1.out.below hb)
  obtain ⟨w4, hw4⟩ : ∃ y, y = w3.alloc (.cells #[.slice a1 O.length k1, .slice a2 zss.length k2] 30) := ⟨_, rfl⟩
  have HW4 := Lib.hid hw4
  have hb34 : Below w3.heap.size w3 w4 := by rw [hw4]; exact below1 _ _
  have S4 : Hid (Half4 w1.heap.size w4 w3.heap.size (.slice a1 O.length k1) (.slice a2 zss.length k2) V O (fixK zss P 0)) := by
    rw [fixK_zero]
    exact ⟨hb.size, by rw [hw4]; exact Box2.new _ _ _ _, (ho.below hb34).retop, (hrw.below hb34).retop, hap⟩
  have R4 := Lib.hid (R3.out.below hb34)
  have B4 := Lib.hid (B3.out.trans (hb34.mono B3.out.size))
  clear hb ho hrw hap hb34 hw4
  go_wp2
  rw [← HW4.out]
  go_loopw [12] (fun iv wr => ∃ (k : Nat) (V : Nat → Value), k ≤ P.length ∧ iv = .int .i64 k ∧ Hid (Half4 w1.heap.size wr w3.heap.size (.slice a1 O.length k1) (.slice a2 zss.length k2) V O (fixK zss P k)) ∧ Hid (Only (fun b => w1.heap.size ≤ b) w4 wr)) (fun iv _ => P.length - (intOf iv).toNat)
  case atStart => exact ⟨0, V, Nat.zero_le _, rfl, S4, Only.refl _ _⟩
  case round =>
    clear S4
    obtain ⟨k, V, hk, rfl, HS, HO⟩ := hrel
    have Bw := Lib.hid (B4.out.trans (HO.out.below (B := w.heap.size) B4.out.size (fun b hb => by have := B1.out.size; omega)))
    by_cases hlt : k < P.length
    · have hi1 : (k : Int) < P.length := by omega
      have hkz : k < zss.length := by have := HPL.out; omega
      have hi2 : (k : Int) < zss.length := by omega
      have hk0 : (0 : Int) ≤ (k : Int) := by omega
      obtain ⟨pb, po, hpa, hpc⟩ := (HPi.out.below Bw.out).cell (by omega)
      have p1 := hpc k hlt
      obtain ⟨q, hq⟩ : ∃ q, q = nth P k := ⟨_, rfl⟩
      have HQ := Lib.hid hq
      have hqf : Fits q := by rw [hq]; exact HPF.out k hlt
      have hqn : q = -1 ∨ 0 ≤ q := by rw [hq]; exact HNG.out k hlt
      rw [← hq] at p1
      by_cases h0 : q = -1
      · have hq1 : (q != -1) = false := by simpa using h0
        have HSn : Hid (Half4 w1.heap.size wr w3.heap.size (.slice a1 O.length k1) (.slice a2 zss.length k2) V O (fixK zss P (k + 1))) := by
          rw [← fixK_same (by rw [← HQ.out]; omega)]; exact HS.out
        subst hpa
        clear hpc hq h0 hqn hqf
        go_wp2
        go_roundw
        case rel => exact ⟨k + 1, V, by omega, by go_num, HSn, HO⟩
        case measure => simp [intOf]; omega
      · have hq1 : (q != -1) = true := by simpa using h0
        have hq0 : 0 ≤ q := by omega
        obtain ⟨g, cap, hvn, hgn⟩ := HS.out.head (by rw [fixK_len]; exact hz0)
        rw [fixK_len] at hvn
        simp only [Value.slice.injEq, true_and] at hvn
        obtain ⟨rfl, rfl⟩ := hvn
        have HS' := HS
        rw [← fixK_len zss P k] at HS'
        obtain ⟨hrc, hrf⟩ := HS'.out.rcell (v := k) (by rw [fixK_len]; exact hkz)
        obtain ⟨ub, uc, hV, _, _⟩ := (HS.out.rows.rows k (by rw [fixK_len]; exact hkz)).shape
        obtain ⟨w5, hw5⟩ : ∃ y, y = wr.alloc (.cells #[.int .i64 q] 2) := ⟨_, rfl⟩
        have hb5 : Below wr.heap.size wr w5 := by rw [hw5]; exact below1 _ _
        have hput := HS'.out.putRow (v := k) (zs := [q]) (w7 := w5) (u := .slice (some ⟨wr.heap.size, 0, none⟩) 1 1) (by rw [fixK_len]; exact hkz) (Only.of_below hb5)
          (by rw [hw5]; exact ((own_new wr q hqf).retop).base (by have := HO.out.size; have := HS.out.base; have := HS.out.str.lt; omega)) (.inr ⟨_, rfl, Nat.le_refl _⟩)
        rw [HQ.out, fixK_put hkz (by rw [← HQ.out]; exact hq0), fixK_len] at hput
        have HPUT := Lib.hid hput
        have HON := Lib.hid (HO.out.trans hput.2)
        have t1 := HS.out.str.cell1
        have t1a := (HS.out.str.alloc (.cells #[.int .i64 q] 2)).cell1
        have hrcA := Below.cell_some (B := 0) (below1 wr (.cells #[.int .i64 q] 2)) rfl hrc
        have hrfA : (wr.alloc (.cells #[.int .i64 q] 2)).frozen? ⟨g, k, none⟩ = false := ((HS'.out.keep (below1 wr (.cells #[.int .i64 q] 2))).rcell (v := k) (by rw [fixK_len]; exact hkz)).2
        rw [hV] at hrc hrcA
        rw [hw5] at HPUT HON
        subst hpa
        clear hpc hq h0 hqn hqf hput hw5 hb5 hV
        go_wp2
        clear t1 t1a hrc hrcA hrf hrfA
        go_roundw
        case rel => exact ⟨k + 1, _, by omega, by go_num, HPUT.out.1, HON⟩
        case measure => simp [intOf]; omega
    · have hi1 : ¬ (k : Int) < P.length := by omega
      have hkk : k = zss.length := by have := HPL.out; omega
      have Rw := Lib.hid (R4.out.only HO.out (by have := HS1.out; omega))
      have d0 := Rw.out.cell0
      have d1 := Rw.out.cell1
      have g0 := Rw.out.frozen 0
      have g1 := Rw.out.frozen 1
      have t0 := HS.out.str.cell0
      have t1 := HS.out.str.cell1
      rw [hkk] at HS
      have hS : Only (fun b => b = w.heap.size + 1) wr ((wr.setCell ⟨w.heap.size + 1, 0, none⟩ (.slice a1 O.length k1)).setCell ⟨w.heap.size + 1, 1, none⟩ (.slice a2 zss.length k2)) := (Box2.set0_only _).trans (Box2.set1_only _)
      have hfin : Hid (OwnArena ((wr.setCell ⟨w.heap.size + 1, 0, none⟩ (.slice a1 O.length k1)).setCell ⟨w.heap.size + 1, 1, none⟩ (.slice a2 zss.length k2)) w.heap.size ((wr.setCell ⟨w.heap.size + 1, 0, none⟩ (.slice a1 O.length k1)).setCell ⟨w.heap.size + 1, 1, none⟩ (.slice a2 zss.length k2)).heap.size (.agg #[.slice a1 O.length k1, .slice a2 zss.length k2]) O (fixK zss P zss.length)) :=
        ⟨_, _, V, rfl, ((HS.out.ints.only hS (fun g hg e => Rw.out.not_own HS.out.ints.own (by decide) (by rw [hg, e]))).retop.base B1.out.size), ((HS.out.rows.only hS (fun g hg e => Rw.out.not_own HS.out.rows.own (by decide) (by rw [hg, e])) (fun k hk g hg e => Rw.out.not_own (HS.out.rows.rows k hk).own (by decide) (by rw [hg, e]))).retop.base B1.out.size), HS.out.apart⟩
      clear hkk HS
      go_wp2
      exact bodyPost_ret (v := .agg #[.slice a1 O.length k1, .slice a2 zss.length k2]) (by simp [results, Tryd.results102, go_sem, d0, d1]) rfl
        ⟨_, rfl, hfin.out, Bw.out.trans (hS.below (B := w.heap.size) Bw.out.size (fun b hb => by omega))⟩

end Go.Proofs.YtphkgnpkcfbnkabDoor
namespace Go.Proofs.YtphkgnpkcfbnkabDoor
section
section
open Go.Shelf
end

section
open Go.RowKit Go.Sort

end
end

section
open Go.Shelf
end

section
open Go.Shelf
end

section
open Go.RowKit Go.Sort

end

section
open Go.RowKit

end

end Go.Proofs.YtphkgnpkcfbnkabDoor
namespace Go.Proofs.YtphkgnpkcfbnkabDoor
section
open Go.RowKit

/-- The greatest of the first k + 1. -/
def maxN (zs : List Int) : Nat → Int
  | 0 => nth zs 0
  | k + 1 => if maxN zs k < nth zs (k + 1) then nth zs (k + 1) else maxN zs k
/-- The least of the first k + 1. -/
def minN (zs : List Int) : Nat → Int
  | 0 => nth zs 0
  | k + 1 => if nth zs (k + 1) < minN zs k then nth zs (k + 1) else minN zs k
theorem maxN_ge {zs : List Int} : ∀ {k j : Nat}, j ≤ k → nth zs j ≤ maxN zs k
  | 0, j, h => by have : j = 0 := by omega
                  subst this; exact Int.le_refl _
  | k + 1, j, h => by
    rw [maxN]
    by_cases e : j = k + 1
    · subst e; split <;> omega
    · have := maxN_ge (zs := zs) (k := k) (j := j) (by omega); split <;> omega
theorem maxN_at {zs : List Int} : ∀ k, ∃ j, j ≤ k ∧ nth zs j = maxN zs k
  | 0 => ⟨0, Nat.le_refl _, rfl⟩
  | k + 1 => by
    rw [maxN]
    obtain ⟨j, hj, e⟩ := maxN_at (zs := zs) k
    by_cases h : maxN zs k ≤ nth zs (k + 1)
    · exact ⟨k + 1, Nat.le_refl _, by split <;> omega⟩
    · exact ⟨j, by omega, by split <;> omega⟩
theorem minN_le {zs : List Int} : ∀ {k j : Nat}, j ≤ k → minN zs k ≤ nth zs j
  | 0, j, h => by have : j = 0 := by omega
                  subst this; exact Int.le_refl _
  | k + 1, j, h => by
    rw [minN]
    by_cases e : j = k + 1
    · subst e; split <;> omega
    · have := minN_le (zs := zs) (k := k) (j := j) (by omega); split <;> omega
theorem minN_at {zs : List Int} : ∀ k, ∃ j, j ≤ k ∧ nth zs j = minN zs k
  | 0 => ⟨0, Nat.le_refl _, rfl⟩
  | k + 1 => by
    rw [minN]
    obtain ⟨j, hj, e⟩ := minN_at (zs := zs) k
    by_cases h : nth zs (k + 1) ≤ minN zs k
    · exact ⟨k + 1, Nat.le_refl _, by split <;> omega⟩
    · exact ⟨j, by omega, by split <;> omega⟩

set_option maxHeartbeats 2000000 in
set_option maxRecDepth 100000 in
theorem Max_is {w : World} {a : Option Addr} {zs : List Int} {m : Int} (cap : Nat) (hm : maxN zs (zs.length - 1) = m) (h : IntsAt w a zs) (hz : 0 < zs.length) :
    Calls Tryd.prog 114 #[.slice a zs.length cap] w fun e w' => e = .returned (.int .i64 m) ∧ w = w' := by
  have hlen := h.len
  obtain ⟨b, off, ha, hc⟩ := h.cell hz
  subst ha
  have h0 := hc 0 hz
  rw [Nat.add_zero] at h0
  have HC := Lib.hid hc
  have HM := Lib.hid hm
  obtain ⟨n, hn⟩ : ∃ n, n = zs.length := ⟨_, rfl⟩
  rw [← hn] at hlen hz ⊢
  have HN := Lib.hid hn
  have h1 : ¬ (n : Int) < 1 := by omega
  have h2 : (0 : Int) < n := by omega
  clear hc hm h hn
  go_enter Tryd.func114, Tryd.ntmps114
  go_wp2
  go_loopw [3, 4] (fun mv iv wr => ∃ k : Nat, k + 1 ≤ n ∧ iv = .int .i64 ((k : Int) + 1) ∧ mv = .int .i64 (maxN zs k) ∧ wr = w) (fun _ iv _ => n + 1 - (intOf iv).toNat)
  case atStart => exact ⟨0, by omega, rfl, rfl, rfl⟩
  case round =>
    obtain ⟨k, hk, rfl, rfl, rfl⟩ := hrel
    by_cases hlt : k + 1 < n
    · have hi1 : (k : Int) + 1 < n := by omega
      have hi0 : (0 : Int) ≤ (k : Int) + 1 := by omega
      have hw : IntKind.i64.wrap ((k : Int) + 1 + 1) = (k : Int) + 1 + 1 := IntWalk.i64_in _ (by omega)
      have ht : ((k : Int) + 1).toNat = k + 1 := by omega
      have c1 := HC.out (k + 1) (by have := HN.out; omega)
      have HS : Hid (maxN zs (k + 1) = if maxN zs k < nth zs (k + 1) then nth zs (k + 1) else maxN zs k) := rfl
      obtain ⟨q, hq⟩ : ∃ q, q = maxN zs k := ⟨_, rfl⟩
      obtain ⟨x, hx⟩ : ∃ x, x = nth zs (k + 1) := ⟨_, rfl⟩
      rw [← hq, ← hx] at HS
      rw [← hx] at c1
      rw [← hq]
      clear hq hx
      go_wp2
      go_roundw
      case rel => exact ⟨k + 1, by omega, by go_num, by rw [HS.out]; first | done | (congr 1; split <;> omega), by first | rfl | trivial⟩
      case measure => simp [intOf]; omega
    · have hi1 : ¬ (k : Int) + 1 < n := by omega
      have HE : Hid (maxN zs k = m) := by rw [← HM.out, show zs.length - 1 = k by have := HN.out; omega]; rfl
      go_wp2
      go_ret
      exact ⟨ret_i64 HE.out, rfl⟩

set_option maxHeartbeats 2000000 in
set_option maxRecDepth 100000 in
theorem Min_is {w : World} {a : Option Addr} {zs : List Int} {m : Int} (cap : Nat) (hm : minN zs (zs.length - 1) = m) (h : IntsAt w a zs) (hz : 0 < zs.length) :
    Calls Tryd.prog 113 #[.slice a zs.length cap] w fun e w' => e = .returned (.int .i64 m) ∧ w = w' := by
  have hlen := h.len
  obtain ⟨b, off, ha, hc⟩ := h.cell hz
  subst ha
  have h0 := hc 0 hz
  rw [Nat.add_zero] at h0
  have HC := Lib.hid hc
  have HM := Lib.hid hm
  obtain ⟨n, hn⟩ : ∃ n, n = zs.length := ⟨_, rfl⟩
  rw [← hn] at hlen hz ⊢
  have HN := Lib.hid hn
  have h1 : ¬ (n : Int) < 1 := by omega
  have h2 : (0 : Int) < n := by omega
  clear hc hm h hn
  go_enter Tryd.func113, Tryd.ntmps113
  go_wp2
  go_loopw [3, 4] (fun mv iv wr => ∃ k : Nat, k + 1 ≤ n ∧ iv = .int .i64 ((k : Int) + 1) ∧ mv = .int .i64 (minN zs k) ∧ wr = w) (fun _ iv _ => n + 1 - (intOf iv).toNat)
  case atStart => exact ⟨0, by omega, rfl, rfl, rfl⟩
  case round =>
    obtain ⟨k, hk, rfl, rfl, rfl⟩ := hrel
    by_cases hlt : k + 1 < n
    · have hi1 : (k : Int) + 1 < n := by omega
      have hi0 : (0 : Int) ≤ (k : Int) + 1 := by omega
      have hw : IntKind.i64.wrap ((k : Int) + 1 + 1) = (k : Int) + 1 + 1 := IntWalk.i64_in _ (by omega)
      have ht : ((k : Int) + 1).toNat = k + 1 := by omega
      have c1 := HC.out (k + 1) (by have := HN.out; omega)
      have HS : Hid (minN zs (k + 1) = if nth zs (k + 1) < minN zs k then nth zs (k + 1) else minN zs k) := rfl
      obtain ⟨q, hq⟩ : ∃ q, q = minN zs k := ⟨_, rfl⟩
      obtain ⟨x, hx⟩ : ∃ x, x = nth zs (k + 1) := ⟨_, rfl⟩
      rw [← hq, ← hx] at HS
      rw [← hx] at c1
      rw [← hq]
      clear hq hx
      go_wp2
      go_roundw
      case rel => exact ⟨k + 1, by omega, by go_num, by rw [HS.out]; first | done | (congr 1; split <;> omega), by first | rfl | trivial⟩
      case measure => simp [intOf]; omega
    · have hi1 : ¬ (k : Int) + 1 < n := by omega
      have HE : Hid (minN zs k = m) := by rw [← HM.out, show zs.length - 1 = k by have := HN.out; omega]; rfl
      go_wp2
      go_ret
      exact ⟨ret_i64 HE.out, rfl⟩
end

section
open Go.Shelf
end

section
open Go.RowKit Go.Shelf Go.Sort

attribute [local go_sem] Oper.semAt_some

end

end Go.Proofs.YtphkgnpkcfbnkabDoor
namespace Go.Proofs.YtphkgnpkcfbnkabDoor
open Go.RowKit

end Go.Proofs.YtphkgnpkcfbnkabDoor
namespace Go.Proofs.YtphkgnpkcfbnkabDoor
open Go.RowKit

end Go.Proofs.YtphkgnpkcfbnkabDoor
