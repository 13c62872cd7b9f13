/-
  Several texts in one: Outcome, WonVal, Trap1, WonApiSpec, Cat1, Distinct, ListM, SameParity, Inside, Open.
-/
import Derived.Deep.RegionHeld3
import Derived.Maps.AppendAt
import Derived.Shelf.SlGeneric
import Derived.Shelf.SortM.Plain
import Derived.Shelf.SortM.SortNone
import Derived.Ground.SlgmProg
import Derived.Test.YtphkgnpkcfbnkaaDoorProg
import Derived.Sort.OwnSortedInts
import Derived.Shelf.SlicesE.Compact
import Derived.Ground.SlgnProg
import Derived.Lib.AppendZeros
import Derived.Lib.OwnBridge
import Derived.RangeFuncBox
import Derived.RangeFuncLeaves
import Derived.RangeFuncBound
import Derived.Shelf.Abstract
import Derived.WalkKit
import Derived.OwnWalkIn
import Derived.TacticsInMore
import Derived.LoopNIn
import Derived.LoopIn
import Derived.ProofKit
import Derived.SizedLaws
import Derived.Deep.Matrix
import Derived.Lib.SmallJoins
import Derived.Test.YtphkgnpkcfbnkaaDoorPk01
import Derived.Test.YtphkgnpkcfbnkaaDoorPk02
import Derived.Test.YtphkgnpkcfbnkaaDoorPk03
import Derived.Test.YtphkgnpkcfbnkaaDoorPk04
import Derived.Test.YtphkgnpkcfbnkaaDoorPk05
import Derived.Test.YtphkgnpkcfbnkaaDoorPk06
import Derived.Test.YtphkgnpkcfbnkaaDoorPk08
import Derived.Test.YtphkgnpkcfbnkaaDoorPk09
import Derived.Test.YtphkgnpkcfbnkaaDoorPk11
import Derived.Test.YtphkgnpkcfbnkaaDoorPk21
namespace Go.Proofs.YtphkgnpkcfbnkaaDoor
section
open Go.RowKit Go.Shelf
attribute [local go_sem] Oper.semAt_some

theorem ofL_up (n : Nat) : ofL (upL n) = allI n := funext fun v => by
  rw [Bool.eq_iff_iff, ofL_iff]
  unfold allI upL
  rw [decide_eq_true_eq, List.mem_map]
  constructor
  · rintro ⟨i, hi, e⟩
    have := List.mem_range.1 hi
    have : (i : Int) = (v : Int) := e
    omega
  · intro h
    exact ⟨v, List.mem_range.2 h, rfl⟩

/-- What each player wins. -/
noncomputable def wonM (zss : List (List Int)) (O P : List Int) (who : Int) : Nat → Bool := outB zss O (nth P) (allI O.length) who

theorem maskOf_up {w : World} {a : Option Addr} {n : Nat} (hI : IntsAt w a (upL n)) (hn : n ≤ 256) : Calls Tryd.prog 69 #[.slice a n n] w fun e w' => e = .returned (maskV (allI n)) ∧ Below w.heap.size w w' := by
  have h := maskOf_is n hI (fun x hx => by
    obtain ⟨u, hu, hu2⟩ := up_mem x hx
    exact ⟨u, hu, by omega⟩) (by rw [upL_len]; omega)
  rw [upL_len, ofL_up] at h
  exact h

theorem ret_outs {fn : Func} {p : Tmp} {tmps : Array Value} {W : World} {g : Nat} {I J : Nat → Bool} {R : Ending → World → Prop} (hr : fn.results = #[.cell p 83]) (hp : tmps.getD p undef = .pointer (some ⟨g, 0, none⟩))
    (hM : OutAt W g I J) (hR : R (.returned (outcV I J)) W) : bodyPost Tryd.prog fn R .ret { tmps := tmps, defers := [] } W :=
  bodyPost_ret (v := outcV I J) (results_cell_row hr tmps _ g _ _ _ (.array 2 81) hp hM (by kernel_rfl) rfl (by kernel_rfl)) rfl hR

set_option linter.unusedSimpArgs false in
set_option maxRecDepth 100000 in
set_option maxHeartbeats 16000000 in
theorem outcomeOf_is {w : World} {v : Value} {O P : List Int} {zss : List (List Int)} (hT : TabW w) (h : GameAt w v O zss P) (hp : parityB O zss P = true) :
    Calls Tryd.prog 60 #[v] w fun e w' => e = .returned (outcV (wonM zss O P 0) (wonM zss O P 1)) ∧ Below w.heap.size w w' := by
  unfold wonM
  have HGm := Lib.hid h
  have HT := Lib.hid hT
  obtain ⟨hA, hPl, hPr⟩ := parityB_iff.1 hp
  have hzl := hA.2.2.1
  have HGO := Lib.hid (gameE_of hp)
  have HLV := Lib.hid (levE_of hp)
  have HTO : Hid (TotalP zss (allI O.length)) := by
    have := total_all hA
    rw [hzl] at this
    exact this
  obtain ⟨ao, an, ap, co, cn, cp, A, C, rfl, h1, h2, h3⟩ := h
  have HPP := Lib.hid hp
  obtain ⟨n, hn⟩ : ∃ n, n = O.length := ⟨_, rfl⟩
  have hn2 : n ≤ 256 := by have := hA.2.1; omega
  have hn6 : n ≤ 17592186044416 := by omega
  rw [← hn] at hPl hzl HGO HLV HTO
  have HNR := fun (W : World) (hb : Below w.heap.size w W) => newRecursion_is (OutQ zss O (nth P)) (HT.out.below hb) (HGm.out.below hb) HPP.out
  rw [← hn] at HNR
  simp only [hzl, hPl] at HNR
  have HNR := Lib.hid HNR
  rw [← hn, hzl, hPl]
  clear hA hPr h1 h2 h3 hn hzl hPl hp hT HGm
  go_enter Tryd.func60, Tryd.ntmps60
  go_wp2_with fail
  obtain ⟨w1, hw1⟩ : ∃ y, y = (w.alloc (.cells #[.slice ao n co, .slice an n cn, .slice ap n cp] 32)).alloc (.cells #[.int .u64 0, .int .u64 0, .int .u64 0, .int .u64 0, .int .u64 0, .int .u64 0, .int .u64 0, .int .u64 0] 83) := ⟨_, rfl⟩
  rw [← hw1]
  have HB1 : Hid (Below w.heap.size w w1) := by rw [hw1]; exact below2 _ _ _
  have HF1 : Hid (Flat3 w1 w.heap.size 32 (.slice ao n co) (.slice an n cn) (.slice ap n cp)) := by rw [hw1]; exact (Flat3.new _ _ _ _ _).below (below1 _ _)
  have HO1 : Hid (OutAt w1 (w.heap.size + 1) (fun _ => false) (fun _ => false)) := by
    rw [hw1, out_zero]
    exact out_new_at _ _ _ (by simp)
  clear hw1
  have HSw : Hid (∀ W', Below w1.heap.size w1 W' → W'.cell? ⟨w.heap.size, 0, none⟩ = some (.slice ao n co) ∧ W'.cell? ⟨w.heap.size, 1, none⟩ = some (.slice an n cn) ∧ W'.cell? ⟨w.heap.size, 2, none⟩ = some (.slice ap n cp)) := fun W' hb => ⟨(HF1.out.below hb).c0, (HF1.out.below hb).c1, (HF1.out.below hb).c2⟩
  have Kd : Hid (Below w1.heap.size w1 w1.drew) := (Below.refl _ _).drew
  have hsd : w1.drew.heap.size = w1.heap.size := rfl
  refine wp_region_M (S := (fun W' => W'.cell? ⟨w.heap.size, 0, none⟩ = some (.slice ao n co) ∧ W'.cell? ⟨w.heap.size, 1, none⟩ = some (.slice an n cn) ∧ W'.cell? ⟨w.heap.size, 2, none⟩ = some (.slice ap n cp))) (m := 8) (by kernel_rfl) (HSw.out _ Kd.out) (fun hHeld => ?_)
  refine wpAnyM_take (i := 0) (v := ?vm1) rfl (by kernel_rfl) (by decide) (by kernel_rfl) (by kernel_rfl) (by kernel_rfl) (fun _ _ _ h => h) (Or.inl ⟨by rfl, ?hm1⟩) (by assumption) ?_
  case hm1 => (intro w hSw; (try dsimp only at hSw); go_simp; first | done | with_reducible rfl)
  try simp only [Act.put, List.setIfInBounds_toArray, List.set_cons_zero, List.set_cons_succ]
  refine wpAnyM_take (i := 2) (v := ?vm2) rfl (by kernel_rfl) (by decide) (by kernel_rfl) (by kernel_rfl) (by kernel_rfl) (fun _ _ _ h => h) (Or.inl ⟨by rfl, ?hm2⟩) (by assumption) ?_
  case hm2 => (intro w hSw; (try dsimp only at hSw); go_simp; first | done | with_reducible rfl)
  try simp only [Act.put, List.setIfInBounds_toArray, List.set_cons_zero, List.set_cons_succ]
  refine wpAnyM_take (i := 3) (v := ?vm3) rfl (by kernel_rfl) (by decide) (by kernel_rfl) (by kernel_rfl) (by kernel_rfl) (fun _ _ _ h => h) (Or.inl ⟨by rfl, ?hm3⟩) (by assumption) ?_
  case hm3 => (intro w hSw; (try dsimp only at hSw); go_simp; first | done | with_reducible rfl)
  try simp only [Act.put, List.setIfInBounds_toArray, List.set_cons_zero, List.set_cons_succ]
  refine wpAnyM_one (i := 1) (by kernel_rfl) rfl (fun K hK => ?_)
  go_simp
  go_at_call 63
  refine (HNR.out w1.drew (HB1.out.trans (Kd.out.mono HB1.out.size))).mono ?_
  rintro e wa ⟨b, nb, pb, kb, rfl, hR, hFn, hFp, hM, hge, hb⟩
  have hR := Lib.hid hR
  have hM := Lib.hid hM
  have Ka := Lib.hid (Kd.out.trans (hb.mono Kd.out.size))
  clear hb
  go_wp2_with fail
  refine hK.out _ _ (fun _ => HSw.out _ Ka.out) (fun hHeld => ?_)
  have hHeld := hHeld (by decide)
  clear hK K
  try simp only [Act.put, List.setIfInBounds_toArray, List.set_cons_zero, List.set_cons_succ]
  refine wpAnyM_one (i := 4) (by kernel_rfl) rfl (fun K hK => ?_)
  go_simp
  go_at_call 64
  refine (size_is ao an n n co cn wa hn6).mono ?_
  rintro e wb ⟨rfl, hwb⟩
  have hb : Below wa.heap.size wa wb := by rw [← hwb]; exact below1 _ _
  have hR2 := Lib.hid (hR.out.below hb)
  have hM2 := Lib.hid (hM.out.below hb)
  have Kb := Lib.hid (Ka.out.trans (hb.mono Ka.out.size))
  clear hb hwb
  go_wp2_with fail
  refine hK.out _ _ (fun _ => HSw.out _ Kb.out) (fun hHeld => ?_)
  have hHeld := hHeld (by decide)
  clear hK K
  try simp only [Act.put, List.setIfInBounds_toArray, List.set_cons_zero, List.set_cons_succ]
  refine wpAnyM_one (i := 5) (by kernel_rfl) rfl (fun K hK => ?_)
  go_simp
  go_at_call 127
  refine (upTo_is n (by omega) wb).mono ?_
  rintro e wc ⟨rfl, hI, hb⟩
  have hI := Lib.hid hI
  have hR3 := Lib.hid (hR2.out.below hb)
  have hM3 := Lib.hid (hM2.out.below hb)
  have Kc := Lib.hid (Kb.out.trans (hb.mono Kb.out.size))
  clear hb
  go_wp2_with fail
  refine hK.out _ _ (fun _ => HSw.out _ Kc.out) (fun hHeld => ?_)
  have hHeld := hHeld (by decide)
  clear hK K
  try simp only [Act.put, List.setIfInBounds_toArray, List.set_cons_zero, List.set_cons_succ]
  refine wpAnyM_one (i := 6) (by kernel_rfl) rfl (fun K hK => ?_)
  go_simp
  go_at_call 69
  refine (maskOf_up hI.out hn2).mono ?_
  rintro e wd ⟨rfl, hb⟩
  have hR4 := Lib.hid (hR3.out.below hb)
  have hM4 := Lib.hid (hM3.out.below hb)
  have Kx := Lib.hid (Kc.out.trans (hb.mono Kc.out.size))
  clear hb
  go_wp2_with fail
  refine hK.out _ _ (fun _ => HSw.out _ Kx.out) (fun hHeld => ?_)
  have hHeld := hHeld (by decide)
  clear hK K
  try simp only [Act.put, List.setIfInBounds_toArray, List.set_cons_zero, List.set_cons_succ]
  refine wpAnyM_one (i := 7) (by kernel_rfl) rfl (fun K hK => ?_)
  go_simp
  go_at_call 85
  refine (solve_is HGO.out HLV.out _ (allI n) (Nat.lt_succ_self _) (fun x hx => by unfold allI at hx; simpa using hx) HTO.out wd (HT.out.below (HB1.out.trans (Kx.out.mono HB1.out.size))) hR4.out hM4.out).mono ?_
  rintro e we ⟨rfl, ho, hm⟩
  have hsx := Kx.out.size
  have Ke : Hid (Below w1.heap.size w1 we) := ((Only.of_below (S := fun k => w1.heap.size ≤ k) Kx.out).trans (ho.mono fun k hk => by omega)).below (Nat.le_refl _) (fun k h => h)
  clear ho hm
  go_wp2_with fail
  refine hK.out _ _ (fun _ => HSw.out _ Ke.out) (fun hHeld => ?_)
  have hHeld := hHeld (by decide)
  clear hK K
  try simp only [Act.put, List.setIfInBounds_toArray, List.set_cons_zero, List.set_cons_succ]
  refine wpAnyM_one (i := 8) (by kernel_rfl) rfl (fun K hK => ?_)
  rw [if_pos (by kernel_rfl)]
  have bO := Lib.hid (HO1.out.below Ke.out)
  refine wp_store_row 83 _ _ rfl (w.heap.size + 1) (wordsA (outB zss O (nth P) (allI n) 0) (outB zss O (nth P) (allI n) 1)) rfl rfl 83 (wordsA (fun _ => false) (fun _ => false)) bO.out (by kernel_rfl) (by simp) (by simp [Value.oneCell']) ?_
  refine hK.out _ _ (fun h => absurd h (by decide)) (fun _ => ?_)
  clear hK K
  try simp only [Act.put, List.setIfInBounds_toArray, List.set_cons_zero, List.set_cons_succ]
  refine wpAnyM_done (by kernel_rfl) ?_ _
  have bZ : Hid (OutAt (we.setRow (w.heap.size + 1) (wordsA (outB zss O (nth P) (allI n) 0) (outB zss O (nth P) (allI n) 1))) (w.heap.size + 1) (outB zss O (nth P) (allI n) 0) (outB zss O (nth P) (allI n) 1)) := bO.out.row8 _ _
  have bB : Hid (Below w.heap.size w (we.setRow (w.heap.size + 1) (wordsA (outB zss O (nth P) (allI n) 0) (outB zss O (nth P) (allI n) 1)))) := (only_row (S := fun k => w.heap.size ≤ k) (Only.of_below (HB1.out.trans (Ke.out.mono HB1.out.size))) (by omega) _).below (Nat.le_refl _) (fun k h => h)
  go_wp2_with fail
  exact ret_outs (g := w.heap.size + 1) rfl rfl bZ.out ⟨rfl, bB.out⟩
end
end Go.Proofs.YtphkgnpkcfbnkaaDoor
namespace Go.Proofs.YtphkgnpkcfbnkaaDoor
section
open Go.RowKit Go.Shelf

noncomputable def winnerV (O : List Int) (zss : List (List Int)) (P : List Int) (x : Int) : Int := if (parityB O zss P && thereB O.length x) = true then nth (wonL zss O P) x.toNat else -1
noncomputable def wonByL (O : List Int) (zss : List (List Int)) (P : List Int) (x : Int) : List Int := if (parityB O zss P && inB x 0 1) = true then regL (wonL zss O P) x else []

theorem winner_no {O P : List Int} {zss : List (List Int)} {x r : Int} (hr : winnerV O zss P x = r) (h : (parityB O zss P && thereB O.length x) = false) : r = -1 := by
  unfold winnerV at hr; rw [h] at hr; simpa using hr.symm
theorem winner_yes {O P : List Int} {zss : List (List Int)} {x r : Int} (hr : winnerV O zss P x = r) (h : (parityB O zss P && thereB O.length x) = true) : r = nth (wonL zss O P) x.toNat := by
  unfold winnerV at hr; rw [if_pos h] at hr; exact hr.symm
theorem wonBy_no {O P r : List Int} {zss : List (List Int)} {x : Int} (hr : wonByL O zss P x = r) (h : (parityB O zss P && inB x 0 1) = false) : r = [] := by
  unfold wonByL at hr; rw [h] at hr; simpa using hr.symm
theorem wonBy_yes {O P r : List Int} {zss : List (List Int)} {x : Int} (hr : wonByL O zss P x = r) (h : (parityB O zss P && inB x 0 1) = true) : r = regL (wonL zss O P) x := by
  unfold wonByL at hr; rw [if_pos h] at hr; exact hr.symm

section
variable {O P : List Int} {zss : List (List Int)} {who : Int} {v : Nat}
theorem wonM_at (hz : zss.length = O.length) (hv : v < O.length) : wonM zss O P who v = (wonZ zss O P v == decide (who = 0)) := by
  unfold wonM outB regZ wonZ allI
  rw [hz]
  simp [hv]
theorem wonM_lt (h : wonM zss O P who v = true) : v < O.length := by
  have := outB_sub h
  unfold allI at this
  simpa using this
theorem wonM_won (hz : zss.length = O.length) (hw : who = 0 ∨ who = 1) (hv : v < O.length) : wonM zss O P who v = true ↔ nth (wonL zss O P) v = who := by
  rw [wonM_at hz hv, wonL_nth (by omega)]
  rcases hw with rfl | rfl <;> cases wonZ zss O P v <;> simp
theorem wonL_one (hz : zss.length = O.length) (hv : v < O.length) : nth (wonL zss O P) v = if wonM zss O P 1 v = true then 1 else 0 := by
  rw [wonM_at hz hv, wonL_nth (by omega)]
  cases wonZ zss O P v <;> simp
theorem rising_eq {xs ys : List Int} (hx : xs.Pairwise (· < ·)) (hy : ys.Pairwise (· < ·)) (h : ∀ x, x ∈ xs ↔ x ∈ ys) : xs = ys := rising_ext hx hy h
/-- The list of what one wins. -/
theorem wonM_list (hz : zss.length = O.length) (hn : O.length ≤ 256) (hw : who = 0 ∨ who = 1) : markedK (wonM zss O P who) 256 = regL (wonL zss O P) who := by
  refine rising_eq (markedK_rising _ _) ?_ fun x => ?_
  · unfold regL; rw [if_pos (by rw [wonL_len]; omega)]; exact regK_up _
  · unfold regL
    rw [if_pos (by rw [wonL_len]; omega), markedK_mem, regK_mem, wonL_len]
    constructor
    · rintro ⟨u, rfl, _, h⟩
      have hu := wonM_lt h
      exact ⟨u, rfl, by omega, (wonM_won hz hw hu).1 h⟩
    · rintro ⟨u, rfl, hu, h⟩
      exact ⟨u, rfl, by omega, (wonM_won hz hw (by omega)).2 h⟩
end
end
end Go.Proofs.YtphkgnpkcfbnkaaDoor
namespace Go.Proofs.YtphkgnpkcfbnkaaDoor
section
section
open Go.RowKit

end

section
open Go.RowKit

end

section
open Go.RowKit

/-- An empty slice of one's own. -/
theorem own_empty {w0 w : World} (hb : Below w0.heap.size w0 w) : OwnInts (w.alloc (.cells #[] 2)) w0.heap.size (w.alloc (.cells #[] 2)).heap.size (.slice (some ⟨w.heap.size, 0, none⟩) 0 0) [] ∧ Below w0.heap.size w0 (w.alloc (.cells #[] 2)) :=
  ⟨OwnInts.mk' (World.ownsRow_made w #[] 0 hb.size (by unfold maxLen; omega) rfl) (by simp) (fun k hk => absurd hk (by simp)), hb.alloc hb.size _⟩

end
end

section
open Go.RowKit

end

section
section
open Go.RowKit

theorem isPlayer_is {x : Int} {r : Bool} (hr : inB x 0 1 = r) (w : World) :
    Calls Tryd.prog 111 #[.int .i64 x] w fun e w' => e = .returned (.bool r) ∧ w = w' := by
  by_cases h0 : x = 0
  · subst h0
    have HR : Hid (true = r) := by rw [← hr]; rfl
    clear hr
    go_enter Tryd.func111, Tryd.ntmps111
    go_wp2
    go_ret
    exact ⟨ret_bool HR.out, rfl⟩
  · by_cases h1 : x = 1
    · subst h1
      have HR : Hid (true = r) := by rw [← hr]; rfl
      clear hr
      go_enter Tryd.func111, Tryd.ntmps111
      go_wp2
      go_ret
      exact ⟨ret_bool HR.out, rfl⟩
    · have HR : Hid (false = r) := by rw [← hr]; unfold Hid inB; simp; omega
      clear hr
      go_enter Tryd.func111, Tryd.ntmps111
      go_wp2
      go_ret
      exact ⟨ret_bool (by rw [← HR.out]; simp [h0, h1]), rfl⟩

end

section
open Go.RowKit

end
end

end Go.Proofs.YtphkgnpkcfbnkaaDoor
namespace Go.Proofs.YtphkgnpkcfbnkaaDoor
section
open Go.RowKit Go.Shelf

set_option maxHeartbeats 8000000 in
set_option maxRecDepth 100000 in
theorem l7Set_is {w : World} {aX : Option Addr} {X : List Int} {who : Int} (cX : Nat) (hX : IntsAt w aX X) (hx : X.length ≤ 256) :
    Calls Tryd.prog 110 #[.slice aX X.length cX, .int .i64 who] w (GivesInts w (regL X who)) := by
  obtain ⟨i0, hi, hz0, hz1, hz2⟩ := info_parts info_int
  have HXi := Lib.hid hX
  have hrl : regL X who = regK X who X.length := by unfold regL; rw [if_pos hx]
  rw [hrl]
  obtain ⟨w2, hw2⟩ : ∃ y, y = w.alloc (.cells #[] 2) := ⟨_, rfl⟩
  have HW2 := Lib.hid hw2
  have K2 : Hid (Below w.heap.size w w2) := by rw [hw2]; exact below1 _ _
  have O2 : Hid (w2.ownsRow w.heap.size 2 1 (.slice (some ⟨w.heap.size, 0, none⟩) 0 0) (regK X who 0).length ((regK X who 0).map (Value.int .i64))) := by rw [hw2]; exact World.ownsRow_made w #[] 0 (Nat.le_refl _) (by unfold maxLen; omega) rfl
  clear hw2 hX hrl
  go_enter Tryd.func110, Tryd.ntmps110
  go_wp2
  rw [← HW2.out]
  go_loopw [5, 6] (fun ov iv wr => ∃ (k : Nat) (uu : Value), uu = ov ∧ k ≤ X.length ∧ iv = .int .i64 k ∧ Hid (wr.ownsRow w.heap.size 2 1 ov (regK X who k).length ((regK X who k).map (Value.int .i64))) ∧ Hid (Below w.heap.size w wr)) (fun _ iv _ => X.length - (intOf iv).toNat)
  case atStart => exact ⟨0, _, rfl, Nat.zero_le _, rfl, O2, K2⟩
  case round =>
    clear O2 K2
    obtain ⟨k, uu, hu0, hk, rfl, HO, HK⟩ := hrel
    subst hu0
    have hksz := HK.out.size
    have hll := regK_len X who k
    by_cases hlt : k < X.length
    · have hi1 : (k : Int) < X.length := by omega
      have hk0 : (0 : Int) ≤ (k : Int) := by omega
      obtain ⟨xb, xo, hxa, hxc⟩ := (HXi.out.below HK.out).cell (by omega)
      have x1 := hxc k hlt
      obtain ⟨q, hq⟩ : ∃ q, q = nth X k := ⟨_, rfl⟩
      have hst : regK X who (k + 1) = regK X who k ++ (if q = who then [(k : Int)] else []) := by rw [regK, hq]
      rw [← hq] at x1
      subst hxa
      clear hxc hq
      by_cases e : q = who
      · have he : (q == who) = true := by simpa using e
        rw [if_pos e] at hst
        have HST := Lib.hid hst
        clear e hst
        go_wp2_with (at_builtin; refine wpList_append_own_at _ rfl _ _ 27 rfl w.heap.size 2 i0 (.int .i64 0) 1 8 Tryd.underlying27 hi hz0 hz1 hz2 rfl (by decide) _ _ _ rfl (HO.out.alloc _) ⟨wr.heap.size, 0, none⟩ 1 1 [.int .i64 (k : Int)] rfl rfl ?c1 ?c2 ?c3 ?c4 ?c5 ?_)
        try (case c1 => exact cell_one_new _ _ _)
        try (case c2 => first | rfl | (intro u hu; simp at hu; subst hu; rfl))
        case c3 => unfold maxLen; omega
        case c4 => omega
        case c5 => first | (simp; omega) | omega
        intro v' w5 hown hgrow _ _
        have hg : Only (fun b => w.heap.size ≤ b) wr w5 := (Only.of_below (below1 wr _)).trans ((Only.of_grown hgrow).mono fun b hb => (HO.out.lt b hb).1) |>.mono fun b hb => by omega
        have Kn := Lib.hid (HK.out.trans (hg.below HK.out.size (fun _ h => h)))
        have HOn : Hid (w5.ownsRow w.heap.size 2 1 v' (regK X who (k + 1)).length ((regK X who (k + 1)).map (Value.int .i64))) := by
          rw [HST.out, List.map_append, List.length_append]; exact hown
        clear hown hgrow hg
        go_wp2
        go_roundw
        case rel => exact ⟨k + 1, _, rfl, by omega, by go_num, HOn, Kn⟩
        case measure => simp [intOf]; omega
      · have he : (q == who) = false := beq_eq_false_iff_ne.2 e
        rw [if_neg e, List.append_nil] at hst
        have HOn : Hid (wr.ownsRow w.heap.size 2 1 uu (regK X who (k + 1)).length ((regK X who (k + 1)).map (Value.int .i64))) := by rw [hst]; exact HO.out
        clear e hst
        go_wp2
        go_roundw
        case rel => exact ⟨k + 1, _, rfl, by omega, by go_num, HOn, HK⟩
        case measure => simp [intOf]; omega
    · have hke : k = X.length := by omega
      have hi1 : ¬ (k : Int) < X.length := by omega
      rw [hke] at HO
      have hfin := Lib.hid (OwnInts.mk' HO.out (by have := regK_len X who X.length; omega) (fun j hj => by
        obtain ⟨v, hv, hv2, _⟩ := regK_mem.1 (nth_mem hj)
        rw [hv]; unfold Fits; omega))
      clear HO
      go_wp2
      go_ret
      exact ⟨_, rfl, hfin.out, HK.out⟩

set_option linter.unusedSimpArgs false in
set_option maxHeartbeats 8000000 in
set_option maxRecDepth 100000 in
theorem specWinnerAt_is {w : World} {v : Value} {O P : List Int} {zss : List (List Int)} {x r : Int} (hr : winnerV O zss P x = r) (h : GameAt w v O zss P) :
    Calls Tryd.prog 43 #[v, .int .i64 x] w fun e w' => e = .returned (.int .i64 r) ∧ Below w.heap.size w w' := by
  have HGm := Lib.hid h
  obtain ⟨ao, an, ap, co, cn, cp, A, C, rfl, h1, h2, h3⟩ := h
  have hlO := h1.len
  have hlP := h3.len
  obtain ⟨w1, hw1⟩ : ∃ y, y = w.alloc (.cells #[.slice ao O.length co, .slice an zss.length cn, .slice ap P.length cp] 32) := ⟨_, rfl⟩
  have HW1 := Lib.hid hw1
  have B1 : Hid (Below w.heap.size w w1) := by rw [hw1]; exact below1 _ _
  have T1 : Hid (Box3 w1 w.heap.size 32 (.slice ao O.length co) (.slice an zss.length cn) (.slice ap P.length cp)) := by rw [hw1]; exact (Box3.new w _ _ _ _)
  have HAt : Hid (ArenaAt w (.agg #[.slice ao O.length co, .slice an zss.length cn]) O zss) := ⟨_, _, _, _, _, _, rfl, h1, h2⟩
  clear hw1 h1 h2 h3
  cases hp : parityB O zss P with
  | false =>
    have HE := Lib.hid (winner_no hr (by rw [hp]; rfl))
    clear hr
    go_enter Tryd.func43, Tryd.ntmps43
    go_wp2_with fail
    rw [← HW1.out]
    refine (specParityOk_is hp (HGm.out.below B1.out)).mono ?_
    rintro e w2 ⟨rfl, hb⟩
    have B2 := Lib.hid (B1.out.trans (hb.mono B1.out.size))
    have T2 := Lib.hid (T1.out.below hb)
    have t0 := T2.out.c0
    have t1 := T2.out.c1
    have t2 := T2.out.c2
    clear hb
    go_wp2
    go_ret
    rw [HE.out]
    exact ⟨rfl, B2.out⟩
  | true =>
    have hpy := parityB_iff.1 hp
    have HZ : Hid (zss.length = O.length) := hpy.1.2.2.1
    have hn : O.length ≤ 256 := hpy.1.2.1
    have HPL : Hid (P.length = O.length) := hpy.2.1
    have hPl1 : P.length ≤ O.length := by rw [HPL.out]; exact Nat.le_refl _
    have hPl2 : O.length ≤ P.length := by rw [HPL.out]; exact Nat.le_refl _
    have hzz1 : zss.length ≤ O.length := by rw [HZ.out]; exact Nat.le_refl _
    have hzz2 : O.length ≤ zss.length := by rw [HZ.out]; exact Nat.le_refl _
    have hib : inB x 0 ((P.length : Int) - 1) = thereB O.length x := by
      unfold inB thereB
      rw [HPL.out, decide_eq_decide]
      omega
    have hw1 : IntKind.i64.wrap ((P.length : Int) - 1) = (P.length : Int) - 1 := IntWalk.i64_in _ (by omega)
    cases hx : thereB O.length x with
    | false =>
      have HE := Lib.hid (winner_no hr (by rw [hp, hx]; rfl))
      rw [hx] at hib
      clear hr hpy
      go_enter Tryd.func43, Tryd.ntmps43
      go_wp2_with fail
      rw [← HW1.out]
      refine (specParityOk_is hp (HGm.out.below B1.out)).mono ?_
      rintro e w2 ⟨rfl, hb⟩
      have B2 := Lib.hid (B1.out.trans (hb.mono B1.out.size))
      have T2 := Lib.hid (T1.out.below hb)
      have t0 := T2.out.c0
      have t1 := T2.out.c1
      have t2 := T2.out.c2
      clear hb
      go_wp2_with fail
      refine (l1In_is hib _).mono ?_
      rintro e w3 ⟨rfl, rfl⟩
      clear t0 t1 t2
      go_wp2
      go_ret
      rw [HE.out]
      exact ⟨rfl, B2.out⟩
    | true =>
      have HE := Lib.hid (winner_yes hr (by rw [hp, hx]; rfl))
      have hk : 0 ≤ x ∧ x < O.length := by unfold thereB at hx; simpa using hx
      obtain ⟨k, rfl⟩ : ∃ k : Nat, x = (k : Int) := ⟨x.toNat, by omega⟩
      have hkn : k < O.length := by omega
      have hk1 : (k : Int) < (wonL zss O P).length := by rw [wonL_len]; omega
      have hk0 : (0 : Int) ≤ (k : Int) := by omega
      have HW : Hid (r = nth (wonL zss O P) k) := by rw [HE.out, Int.toNat_natCast]; exact rfl
      rw [hx] at hib
      have HP := Lib.hid hp
      clear hr hpy hx hp hk HE
      go_enter Tryd.func43, Tryd.ntmps43
      go_wp2_with fail
      rw [← HW1.out]
      refine (specParityOk_is HP.out (HGm.out.below B1.out)).mono ?_
      rintro e w2 ⟨rfl, hb⟩
      have B2 := Lib.hid (B1.out.trans (hb.mono B1.out.size))
      have T2 := Lib.hid (T1.out.below hb)
      have t0 := T2.out.c0
      have t1 := T2.out.c1
      have t2 := T2.out.c2
      clear hb
      go_wp2_with fail
      refine (l1In_is hib _).mono ?_
      rintro e w3 ⟨rfl, rfl⟩
      go_wp2_with fail
      refine (l7Won_is (HGm.out.below B2.out) HP.out).mono ?_
      rintro e w4 ⟨u, rfl, hu, hb⟩
      have B4 := Lib.hid (B2.out.trans (hb.mono B2.out.size))
      obtain ⟨ua, uc, hus, hI, _⟩ := hu.shape
      subst hus
      obtain ⟨xb, xo, hxa, hxc⟩ := hI.cell (by omega)
      have x1 := hxc k (by omega)
      rw [← HW.out] at x1
      subst hxa
      clear hb hu hI hxc t0 t1 t2
      go_wp2
      go_ret
      exact ⟨rfl, B4.out⟩

set_option linter.unusedSimpArgs false in
set_option maxHeartbeats 8000000 in
set_option maxRecDepth 100000 in
theorem specWonBy_is {w : World} {v : Value} {O P r : List Int} {zss : List (List Int)} {x : Int} (hr : wonByL O zss P x = r) (h : GameAt w v O zss P) :
    Calls Tryd.prog 47 #[v, .int .i64 x] w (GivesInts w r) := by
  have HGm := Lib.hid h
  obtain ⟨ao, an, ap, co, cn, cp, A, C, rfl, h1, h2, h3⟩ := h
  have hlO := h1.len
  have hlP := h3.len
  obtain ⟨w1, hw1⟩ : ∃ y, y = w.alloc (.cells #[.slice ao O.length co, .slice an zss.length cn, .slice ap P.length cp] 32) := ⟨_, rfl⟩
  have HW1 := Lib.hid hw1
  have B1 : Hid (Below w.heap.size w w1) := by rw [hw1]; exact below1 _ _
  have T1 : Hid (Box3 w1 w.heap.size 32 (.slice ao O.length co) (.slice an zss.length cn) (.slice ap P.length cp)) := by rw [hw1]; exact (Box3.new w _ _ _ _)
  have HAt : Hid (ArenaAt w (.agg #[.slice ao O.length co, .slice an zss.length cn]) O zss) := ⟨_, _, _, _, _, _, rfl, h1, h2⟩
  clear hw1 h1 h2 h3
  cases hp : parityB O zss P with
  | false =>
    have HE := Lib.hid (wonBy_no hr (by rw [hp]; rfl))
    clear hr
    go_enter Tryd.func47, Tryd.ntmps47
    go_wp2_with fail
    rw [← HW1.out]
    refine (specParityOk_is hp (HGm.out.below B1.out)).mono ?_
    rintro e w2 ⟨rfl, hb⟩
    have B2 := Lib.hid (B1.out.trans (hb.mono B1.out.size))
    have T2 := Lib.hid (T1.out.below hb)
    have t0 := T2.out.c0
    have t1 := T2.out.c1
    have t2 := T2.out.c2
    clear hb
    go_wp2
    go_ret
    rw [HE.out]
    exact ⟨_, rfl, (own_empty B2.out).1, (own_empty B2.out).2⟩
  | true =>
    have hpy := parityB_iff.1 hp
    have HZ : Hid (zss.length = O.length) := hpy.1.2.2.1
    have hn : O.length ≤ 256 := hpy.1.2.1
    cases hx : inB x 0 1 with
    | false =>
      have HE := Lib.hid (wonBy_no hr (by rw [hp, hx]; rfl))
      clear hr hpy
      go_enter Tryd.func47, Tryd.ntmps47
      go_wp2_with fail
      rw [← HW1.out]
      refine (specParityOk_is hp (HGm.out.below B1.out)).mono ?_
      rintro e w2 ⟨rfl, hb⟩
      have B2 := Lib.hid (B1.out.trans (hb.mono B1.out.size))
      have T2 := Lib.hid (T1.out.below hb)
      have t0 := T2.out.c0
      have t1 := T2.out.c1
      have t2 := T2.out.c2
      clear hb
      go_wp2_with fail
      refine (l1In_is hx _).mono ?_
      rintro e w3 ⟨rfl, rfl⟩
      clear t0 t1 t2
      go_wp2
      go_ret
      rw [HE.out]
      exact ⟨_, rfl, (own_empty B2.out).1, (own_empty B2.out).2⟩
    | true =>
      have HE := Lib.hid (wonBy_yes hr (by rw [hp, hx]; rfl))
      have HX := Lib.hid hx
      have HP := Lib.hid hp
      clear hr hpy hx hp
      go_enter Tryd.func47, Tryd.ntmps47
      go_wp2_with fail
      rw [← HW1.out]
      refine (specParityOk_is HP.out (HGm.out.below B1.out)).mono ?_
      rintro e w2 ⟨rfl, hb⟩
      have B2 := Lib.hid (B1.out.trans (hb.mono B1.out.size))
      have T2 := Lib.hid (T1.out.below hb)
      have t0 := T2.out.c0
      have t1 := T2.out.c1
      have t2 := T2.out.c2
      clear hb
      go_wp2_with fail
      refine (l1In_is HX.out _).mono ?_
      rintro e w3 ⟨rfl, rfl⟩
      go_wp2_with fail
      refine (l7Won_is (HGm.out.below B2.out) HP.out).mono ?_
      rintro e w4 ⟨u, rfl, hu, hb⟩
      have B4 := Lib.hid (B2.out.trans (hb.mono B2.out.size))
      obtain ⟨ua, uc, hus, hI, _⟩ := hu.shape
      subst hus
      have HI := Lib.hid hI
      clear hb hu hI t0 t1 t2
      go_wp2_with fail
      refine (l7Set_is (X := wonL zss O P) (who := x) uc HI.out (by rw [wonL_len, HZ.out]; exact hn)).mono ?_
      rintro e w5 ⟨u, rfl, hu, hb⟩
      have B5 := Lib.hid (B4.out.trans (hb.mono B4.out.size))
      have HU := Lib.hid (hu.base B4.out.size)
      clear hb hu
      go_wp2
      go_ret
      rw [HE.out]
      exact ⟨_, rfl, HU.out, B5.out⟩
end
end Go.Proofs.YtphkgnpkcfbnkaaDoor
namespace Go.Proofs.YtphkgnpkcfbnkaaDoor
section
section
open Go.Shelf
end

section
open Go.RowKit Go.Sort

end
end

section
open Go.Shelf
end

section
open Go.Shelf
end

section
open Go.RowKit Go.Sort

end

section
open Go.RowKit

end

end Go.Proofs.YtphkgnpkcfbnkaaDoor
namespace Go.Proofs.YtphkgnpkcfbnkaaDoor
section
open Go.RowKit

/-- The greatest of the first k + 1. -/
def maxN (zs : List Int) : Nat → Int
  | 0 => nth zs 0
  | k + 1 => if maxN zs k < nth zs (k + 1) then nth zs (k + 1) else maxN zs k
/-- The least of the first k + 1. -/
def minN (zs : List Int) : Nat → Int
  | 0 => nth zs 0
  | k + 1 => if nth zs (k + 1) < minN zs k then nth zs (k + 1) else minN zs k
theorem maxN_ge {zs : List Int} : ∀ {k j : Nat}, j ≤ k → nth zs j ≤ maxN zs k
  | 0, j, h => by have : j = 0 := by omega
                  subst this; exact Int.le_refl _
  | k + 1, j, h => by
    rw [maxN]
    by_cases e : j = k + 1
    · subst e; split <;> omega
    · have := maxN_ge (zs := zs) (k := k) (j := j) (by omega); split <;> omega
theorem maxN_at {zs : List Int} : ∀ k, ∃ j, j ≤ k ∧ nth zs j = maxN zs k
  | 0 => ⟨0, Nat.le_refl _, rfl⟩
  | k + 1 => by
    rw [maxN]
    obtain ⟨j, hj, e⟩ := maxN_at (zs := zs) k
    by_cases h : maxN zs k ≤ nth zs (k + 1)
    · exact ⟨k + 1, Nat.le_refl _, by split <;> omega⟩
    · exact ⟨j, by omega, by split <;> omega⟩
theorem minN_le {zs : List Int} : ∀ {k j : Nat}, j ≤ k → minN zs k ≤ nth zs j
  | 0, j, h => by have : j = 0 := by omega
                  subst this; exact Int.le_refl _
  | k + 1, j, h => by
    rw [minN]
    by_cases e : j = k + 1
    · subst e; split <;> omega
    · have := minN_le (zs := zs) (k := k) (j := j) (by omega); split <;> omega
theorem minN_at {zs : List Int} : ∀ k, ∃ j, j ≤ k ∧ nth zs j = minN zs k
  | 0 => ⟨0, Nat.le_refl _, rfl⟩
  | k + 1 => by
    rw [minN]
    obtain ⟨j, hj, e⟩ := minN_at (zs := zs) k
    by_cases h : nth zs (k + 1) ≤ minN zs k
    · exact ⟨k + 1, Nat.le_refl _, by split <;> omega⟩
    · exact ⟨j, by omega, by split <;> omega⟩

set_option maxHeartbeats 2000000 in
set_option maxRecDepth 100000 in
theorem Max_is {w : World} {a : Option Addr} {zs : List Int} {m : Int} (cap : Nat) (hm : maxN zs (zs.length - 1) = m) (h : IntsAt w a zs) (hz : 0 < zs.length) :
    Calls Tryd.prog 134 #[.slice a zs.length cap] w fun e w' => e = .returned (.int .i64 m) ∧ w = w' := by
  have hlen := h.len
  obtain ⟨b, off, ha, hc⟩ := h.cell hz
  subst ha
  have h0 := hc 0 hz
  rw [Nat.add_zero] at h0
  have HC := Lib.hid hc
  have HM := Lib.hid hm
  obtain ⟨n, hn⟩ : ∃ n, n = zs.length := ⟨_, rfl⟩
  rw [← hn] at hlen hz ⊢
  have HN := Lib.hid hn
  have h1 : ¬ (n : Int) < 1 := by omega
  have h2 : (0 : Int) < n := by omega
  clear hc hm h hn
  go_enter Tryd.func134, Tryd.ntmps134
  go_wp2
  go_loopw [3, 4] (fun mv iv wr => ∃ k : Nat, k + 1 ≤ n ∧ iv = .int .i64 ((k : Int) + 1) ∧ mv = .int .i64 (maxN zs k) ∧ wr = w) (fun _ iv _ => n + 1 - (intOf iv).toNat)
  case atStart => exact ⟨0, by omega, rfl, rfl, rfl⟩
  case round =>
    obtain ⟨k, hk, rfl, rfl, rfl⟩ := hrel
    by_cases hlt : k + 1 < n
    · have hi1 : (k : Int) + 1 < n := by omega
      have hi0 : (0 : Int) ≤ (k : Int) + 1 := by omega
      have hw : IntKind.i64.wrap ((k : Int) + 1 + 1) = (k : Int) + 1 + 1 := IntWalk.i64_in _ (by omega)
      have ht : ((k : Int) + 1).toNat = k + 1 := by omega
      have c1 := HC.out (k + 1) (by have := HN.out; omega)
      have HS : Hid (maxN zs (k + 1) = if maxN zs k < nth zs (k + 1) then nth zs (k + 1) else maxN zs k) := rfl
      obtain ⟨q, hq⟩ : ∃ q, q = maxN zs k := ⟨_, rfl⟩
      obtain ⟨x, hx⟩ : ∃ x, x = nth zs (k + 1) := ⟨_, rfl⟩
      rw [← hq, ← hx] at HS
      rw [← hx] at c1
      rw [← hq]
      clear hq hx
      go_wp2
      go_roundw
      case rel => exact ⟨k + 1, by omega, by go_num, by rw [HS.out]; first | done | (congr 1; split <;> omega), by first | rfl | trivial⟩
      case measure => simp [intOf]; omega
    · have hi1 : ¬ (k : Int) + 1 < n := by omega
      have HE : Hid (maxN zs k = m) := by rw [← HM.out, show zs.length - 1 = k by have := HN.out; omega]; rfl
      go_wp2
      go_ret
      exact ⟨ret_i64 HE.out, rfl⟩

set_option maxHeartbeats 2000000 in
set_option maxRecDepth 100000 in
theorem Min_is {w : World} {a : Option Addr} {zs : List Int} {m : Int} (cap : Nat) (hm : minN zs (zs.length - 1) = m) (h : IntsAt w a zs) (hz : 0 < zs.length) :
    Calls Tryd.prog 133 #[.slice a zs.length cap] w fun e w' => e = .returned (.int .i64 m) ∧ w = w' := by
  have hlen := h.len
  obtain ⟨b, off, ha, hc⟩ := h.cell hz
  subst ha
  have h0 := hc 0 hz
  rw [Nat.add_zero] at h0
  have HC := Lib.hid hc
  have HM := Lib.hid hm
  obtain ⟨n, hn⟩ : ∃ n, n = zs.length := ⟨_, rfl⟩
  rw [← hn] at hlen hz ⊢
  have HN := Lib.hid hn
  have h1 : ¬ (n : Int) < 1 := by omega
  have h2 : (0 : Int) < n := by omega
  clear hc hm h hn
  go_enter Tryd.func133, Tryd.ntmps133
  go_wp2
  go_loopw [3, 4] (fun mv iv wr => ∃ k : Nat, k + 1 ≤ n ∧ iv = .int .i64 ((k : Int) + 1) ∧ mv = .int .i64 (minN zs k) ∧ wr = w) (fun _ iv _ => n + 1 - (intOf iv).toNat)
  case atStart => exact ⟨0, by omega, rfl, rfl, rfl⟩
  case round =>
    obtain ⟨k, hk, rfl, rfl, rfl⟩ := hrel
    by_cases hlt : k + 1 < n
    · have hi1 : (k : Int) + 1 < n := by omega
      have hi0 : (0 : Int) ≤ (k : Int) + 1 := by omega
      have hw : IntKind.i64.wrap ((k : Int) + 1 + 1) = (k : Int) + 1 + 1 := IntWalk.i64_in _ (by omega)
      have ht : ((k : Int) + 1).toNat = k + 1 := by omega
      have c1 := HC.out (k + 1) (by have := HN.out; omega)
      have HS : Hid (minN zs (k + 1) = if nth zs (k + 1) < minN zs k then nth zs (k + 1) else minN zs k) := rfl
      obtain ⟨q, hq⟩ : ∃ q, q = minN zs k := ⟨_, rfl⟩
      obtain ⟨x, hx⟩ : ∃ x, x = nth zs (k + 1) := ⟨_, rfl⟩
      rw [← hq, ← hx] at HS
      rw [← hx] at c1
      rw [← hq]
      clear hq hx
      go_wp2
      go_roundw
      case rel => exact ⟨k + 1, by omega, by go_num, by rw [HS.out]; first | done | (congr 1; split <;> omega), by first | rfl | trivial⟩
      case measure => simp [intOf]; omega
    · have hi1 : ¬ (k : Int) + 1 < n := by omega
      have HE : Hid (minN zs k = m) := by rw [← HM.out, show zs.length - 1 = k by have := HN.out; omega]; rfl
      go_wp2
      go_ret
      exact ⟨ret_i64 HE.out, rfl⟩
end

section
open Go.Shelf
end

section
open Go.RowKit Go.Shelf Go.Sort

attribute [local go_sem] Oper.semAt_some

end

end Go.Proofs.YtphkgnpkcfbnkaaDoor
namespace Go.Proofs.YtphkgnpkcfbnkaaDoor
section
open Go.RowKit Go.Shelf
attribute [local go_sem] Oper.semAt_some

set_option maxRecDepth 100000 in
set_option maxHeartbeats 2000000 in
theorem AppendAll_is {w : World} {Bs : Nat} {I : Nat → Bool} (hT : TabW w) (hM : MaskAt w Bs I) :
    Calls Tryd.prog 178 #[.slice none 0 0, .func (.func 175) #[] #[.pointer (some ⟨Bs, 0, none⟩)]] w fun e W' => ∃ v, e = .returned v ∧ W'.ownsRow w.heap.size 2 1 v (markedK I 256).length ((markedK I 256).map (Value.int .i64)) ∧ Below w.heap.size w W' := by
  obtain ⟨i0, hi, hz0, hz1, hz2⟩ := info_parts info_int
  have hTl := hT.lt
  refine (callsIn_wide (n := 4)).1 ?_
  refine callsIn_of_wp_marks Tryd.func178 rfl trivial ?_ rfl
  simp only [Tryd.ntmps178, List.size_toArray, List.length_cons, List.length_nil, Nat.reduceAdd, Nat.reduceSub, Array.replicate_succ, Array.replicate_zero, List.push_toArray, List.append_toArray, List.nil_append, List.cons_append]
  gi_wp2
  have bO := Boxed.new w 27 (.slice none 0 0)
  have hB0 : Below w.heap.size w (w.alloc (.cells #[.slice none 0 0] 27)) := (Below.refl _ w).alloc (Nat.le_refl _) _
  refine wpIn_rangeFunc_ownG rfl (by omega) (gf := 175) (lb := #[.pointer (some ⟨Bs, 0, none⟩)]) rfl trivial (enters_of Tryd.func175 (by kernel_rfl) rfl)
    (all_stops 3 (by omega) Bs I (w.alloc (.cells #[.slice none 0 0] 27)) (hT.below hB0) (hM.below hB0)) StayT.trans (stayT_b (hT.below hB0)) (Below.refl _ _) (fun _ => rfl)
    (fun (pre : List (MemI I)) W => (∃ v, Boxed W w.heap.size 27 v ∧ W.ownsRow w.heap.size 2 1 v pre.length ((valI pre).map (Value.int .i64)) ∧ True) ∧ Below w.heap.size w W)
    (fun _ _ _ => False)
    (OwnFrom.and (Own.from (holdsRow_own w.heap.size w.heap.size 27 2 1 (fun pre : List (MemI I) => pre.length) (fun pre : List (MemI I) => (valI pre).map (Value.int .i64)) (fun _ _ => True)) _) (ownFrom_below (Nat.le_refl _) (by simp)))
    (fun _ _ _ _ _ hs _ _ => hs)
    ⟨⟨_, bO, World.ownsRow_nil _ _ _ _, trivial⟩, hB0⟩
    (fun x => { tmps := #[.slice none 0 0, .func (.func 175) #[] #[.pointer (some ⟨Bs, 0, none⟩)], .pointer (some ⟨w.heap.size, 0, none⟩), undef, .slice none 0 0, .int .i64 (x.1 : Int), .func (.func 175) #[] #[.pointer (some ⟨Bs, 0, none⟩)], .int .i64 (x.1 : Int), undef, undef, undef, undef, undef], defers := [] }) ?assign ?body ?done ?stop
  case assign =>
    intro l x W K hK
    dsimp only [encI]
    gi_wp2
    exact hK
  case body =>
    rintro l pre x W ⟨⟨v, hv, hrow, _⟩, hB⟩ hlt
    have hc := hv.cell
    gi_wp2_with (gi_at_builtin; refine wpListIn_append_own _ rfl _ _ 27 rfl w.heap.size 2 i0 (.int .i64 0) 1 8 Tryd.underlying27 hi hz0 hz1 hz2 rfl (by decide) _ _ _ rfl (hrow.alloc _) ⟨W.heap.size, 0, none⟩ 1 1 [.int .i64 (x.1 : Int)] rfl rfl (cell_one_new _ _ _) (by simp [Value.oneCell']) (by unfold maxLen; omega) (by omega) (by have := hB.size; simp; omega) ?_; intro v' w1 hown' hgrow _; obtain ⟨g', cap', rfl⟩ := ownsRow_succ hown'; obtain ⟨hv1, hv2, hr2, hk2, hb2⟩ := Boxed.appended hv (by decide) hrow hB.size (Nat.le_refl _) hown' hgrow; have hc1 := hv1.cell; have hf1 := hv1.frozen)
    exact ⟨hk2.from _, hb2.block _ hTl, ⟨_, hv2, by simpa [valI] using hr2, trivial⟩, hB.trans hb2⟩
  case done =>
    rintro D ys W hD hys ⟨⟨v, hv, hrow, _⟩, hB⟩ hK
    have hc := hv.cell
    have hlen : ys.length = (markedK I 256).length := by rw [← hys]; simp [valI]
    rw [hys, hlen] at hrow
    gi_wp2
    refine ⟨by simp, .inl ⟨_, _, rfl, run_takeDeferred hK, ?_⟩⟩
    exact ⟨_, results_tmp rfl _ _ _, v, rfl, ownsRow_putObj hrow _ hK rfl, hB.trans (belowK_b (w := w) (Nat.le_refl _) W D _ _ (by simp at hD; omega) hK rfl rfl)⟩
  case stop =>
    rintro D c pre W _ _ h _
    exact h.elim

set_option maxHeartbeats 1000000 in
theorem CollectAll_is {w : World} {Bs : Nat} {I : Nat → Bool} (hT : TabW w) (hM : MaskAt w Bs I) :
    Calls Tryd.prog 135 #[.func (.func 175) #[] #[.pointer (some ⟨Bs, 0, none⟩)]] w fun e W' => ∃ v, e = .returned v ∧ W'.ownsRow w.heap.size 2 1 v (markedK I 256).length ((markedK I 256).map (Value.int .i64)) ∧ Below w.heap.size w W' := by
  have HC := Lib.hid (AppendAll_is hT hM)
  clear hT hM
  go_enter Tryd.func135, Tryd.ntmps135
  go_wp2_with fail
  refine HC.out.mono ?_
  rintro e w1 ⟨v, rfl, hv, hb⟩
  have HV := Lib.hid (And.intro hv hb)
  clear hv hb
  go_wp2
  go_ret
  exact ⟨_, rfl, HV.out.1, HV.out.2⟩

set_option maxHeartbeats 1000000 in
theorem list_is {w : World} {I : Nat → Bool} (hT : TabW w) :
    Calls Tryd.prog 71 #[maskV I] w fun e W' => ∃ v, e = .returned v ∧ W'.ownsRow w.heap.size 2 1 v (markedK I 256).length ((markedK I 256).map (Value.int .i64)) ∧ Below w.heap.size w W' := by
  have HT := Lib.hid hT
  clear hT
  go_enter Tryd.func71, Tryd.ntmps71
  go_wp2_with fail
  refine (mask_all _ I).mono ?_
  rintro e w2 ⟨rfl, hw2⟩
  have B2 : Hid (Below w.heap.size w w2) := by rw [hw2]; exact below2 _ _ _
  have bM : Hid (MaskAt w2 (w.heap.size + 1) I) := by rw [hw2]; exact mask_new_at _ _ (by simp)
  have HS2 : Hid (w2.heap.size = w.heap.size + 2) := by rw [hw2]; simp [Hid]
  clear hw2
  go_wp2_with fail
  refine (CollectAll_is (HT.out.below B2.out) bM.out).mono ?_
  rintro e w3 ⟨v, rfl, hv, hb⟩
  have HV := Lib.hid (And.intro (ownsRow_base hv (show w.heap.size ≤ w2.heap.size by have := HS2.out; omega)) (B2.out.trans (hb.mono B2.out.size)))
  clear hv hb
  go_wp2
  go_ret
  exact ⟨_, rfl, HV.out.1, HV.out.2⟩
end
end Go.Proofs.YtphkgnpkcfbnkaaDoor
namespace Go.Proofs.YtphkgnpkcfbnkaaDoor
open Go.RowKit

end Go.Proofs.YtphkgnpkcfbnkaaDoor
namespace Go.Proofs.YtphkgnpkcfbnkaaDoor
open Go.RowKit

end Go.Proofs.YtphkgnpkcfbnkaaDoor
namespace Go.Proofs.YtphkgnpkcfbnkaaDoor
section
section
section
open Go.ChangeShapes Go.WideShapes Go.ChangeAt Go.RowKit Go.Deep

theorem cells_int : Tryd.prog.cellsOf 2 = 1 := by kernel_rfl
theorem cells_ints : Tryd.prog.cellsOf 27 = 1 := by kernel_rfl
theorem bytes_int : Tryd.prog.bytesOf 2 = 8 := by kernel_rfl
theorem bytes_ints : Tryd.prog.bytesOf 27 = 24 := by kernel_rfl

theorem fits_of_wf {n : Int} (h : (Lit.int .i64 n).wf = true) : Fits n := by
  have h1 : IntKind.i64.min = -9223372036854775808 := rfl
  have h2 : IntKind.i64.max = 9223372036854775807 := rfl
  simp only [Lit.wf, Bool.and_eq_true, decide_eq_true_eq] at h
  unfold Fits
  omega

theorem mem_weightsAll {H : Type} {P : Program} {e : TypeId} {d : DataW H} {n : Nat} : ∀ {l : List (DataW H)}, d ∈ l → n ∈ d.weights P e → n ∈ DataW.weightsAll P e l
  | [], h, _ => by cases h
  | x :: r, h, hn => by
    simp only [DataW.weightsAll, List.mem_append]
    rcases List.mem_cons.1 h with rfl | h
    · exact Or.inl hn
    · exact Or.inr (mem_weightsAll h hn)

section
variable {H : Type} {enc : TypeId × Value → H} {W : World}

theorem nil_ints (W : World) : IntsAt W none [] := ⟨by simp, fun k hk => absurd hk (by simp), fun h => absurd h (by simp)⟩

/-- One slice of numbers: its cells, its length, its bounds. -/
theorem ints_mk {a : Addr} {L cap : Nat} {Z : List Int} (hl : L ≤ cap) (hz : Z.length = cap) (hc : ∀ i, i < cap → W.cell? (a.add i) = some (.int .i64 (Z.getD i 0))) (hw : ∀ n ∈ Z, (Lit.int .i64 n).wf = true) (hb : cap * 8 ≤ reachBytes) :
    (Z.take L).length = L ∧ IntsAt W (some a) (Z.take L) := by
  have hlen : (Z.take L).length = L := by simp; omega
  have hnth : ∀ k, k < L → nth (Z.take L) k = Z.getD k 0 := fun k hk => by simp [nth, List.getD, hk]
  refine ⟨hlen, by rw [hlen]; have := reachBytes_lt; omega, fun k hk => ?_, fun h0 => ?_⟩
  · rw [hlen] at hk
    rw [hnth k hk]
    refine fits_of_wf (hw _ ?_)
    rw [show Z.getD k 0 = Z[k]'(by omega) from by simp [List.getD, show k < Z.length from by omega]]
    exact List.getElem_mem _
  · rw [hlen] at h0
    obtain ⟨b, off, spot⟩ := a
    have hs : spot = none := by simpa [Addr.add] using World.cell?_spot (hc 0 (by omega))
    subst hs
    refine ⟨b, off, rfl, fun k hk => ?_⟩
    rw [hlen] at hk
    have h := hc k (by omega)
    rw [hnth k hk, ← add_plain]
    exact h

theorem ints_of {fuel : Nat} {v : Value} {y : DataW H × List MemPlace} (h : DataW.trod enc Tryd.prog W 0 (fun _ => true) true fuel 27 [v] = some y) (hw : ∀ n ∈ y.1.weights Tryd.prog 27, n ≤ reachBytes) :
    ∃ a zs cap, v = .slice a zs.length cap ∧ IntsAt W a zs := by
  rcases open_ints Tryd.underlying27 Tryd.underlying2 cells_int h with ⟨hcs, _⟩ | ⟨a, len, cap, zs, hcs, _, hl, hm, hz, hx, hcell, hwz⟩
  · simp only [List.cons.injEq, and_true] at hcs
    exact ⟨none, [], 0, hcs, nil_ints W⟩
  · simp only [List.cons.injEq, and_true] at hcs
    simp only [if_true] at hz
    subst hx
    have hb := hw ((lits (H := H) .i64 (zs.take len)).length * 8 + (lits (H := H) .i64 (zs.drop len)).length * 8) (by simp [DataW.weights, Tryd.underlying27, bytes_int, Nat.add_mul])
    simp only [lits, List.length_map, List.length_take, List.length_drop] at hb
    obtain ⟨h1, h2⟩ := ints_mk hl hz (fun i hi => hcell i (by omega)) hwz (by omega)
    exact ⟨some a, _, cap, by rw [hcs, h1], h2⟩

theorem rows_of {fuel : Nat} {v : Value} {y : DataW H × List MemPlace} (h : DataW.trod enc Tryd.prog W 0 (fun _ => true) true fuel 28 [v] = some y) (hw : ∀ n ∈ y.1.weights Tryd.prog 28, n ≤ reachBytes) :
    ∃ a A C zss cap, v = .slice a zss.length cap ∧ RowsAt W a A C zss := by
  rcases open_int_rows Tryd.underlying28 Tryd.underlying27 Tryd.underlying2 cells_ints cells_int h with ⟨hcs, _⟩ | ⟨a, len, cap, A, L, C, Z, hcs, _, hl, hm, hx, hcell⟩
  · simp only [List.cons.injEq, and_true] at hcs
    exact ⟨none, fun _ => none, fun _ => 0, [], 0, hcs, by simp, fun h => absurd h (by simp), fun k hk => absurd hk (by simp)⟩
  · simp only [List.cons.injEq, and_true] at hcs
    subst hx
    have hlen : ((List.range len).map fun r => (Z r).take (L r)).length = len := by simp
    have hrow : ∀ k, k < len → row ((List.range len).map fun r => (Z r).take (L r)) k = (Z k).take (L k) := fun k hk => by simp [row, hk]
    have hb : len ≤ 17592186044416 := by
      have := hw ((((List.range len).map fun r => intRow (H := H) .i64 (A r) (L r) (Z r)).length + ((List.range (cap - len)).map fun j => intRow (H := H) .i64 (A (len + j)) (L (len + j)) (Z (len + j))).length) * 24) (by simp [DataW.weights, Tryd.underlying28, bytes_ints])
      simp only [List.length_map, List.length_range] at this
      have := reachBytes_lt
      omega
    have hrb : ∀ r, r < len → ∀ ad, A r = some ad → C r * 8 ≤ reachBytes := fun r hr ad had => by
      have hc := hcell r (by omega)
      have := hw (C r * 8) (by
        simp only [DataW.weights, Tryd.underlying28, List.mem_cons, List.mem_append]
        refine Or.inr (Or.inl (mem_weightsAll (d := intRow (H := H) .i64 (A r) (L r) (Z r)) (List.mem_map.2 ⟨r, List.mem_range.2 hr, rfl⟩) ?_))
        have hcl := hc.2.1
        have hzl := hc.2.2.2.1
        have e : min (L r) (Z r).length + ((Z r).length - L r) = C r := by omega
        simp [intRow, had, DataW.weights, Tryd.underlying27, bytes_int, lits, e])
      exact this
    have hrows : ∀ k, k < len → ((Z k).take (L k)).length = L k ∧ IntsAt W (A k) ((Z k).take (L k)) := fun k hk => by
      obtain ⟨_, c1, c2, c3, c4, c5, c6⟩ := hcell k (by omega)
      cases hA : A k with
      | none =>
        have h0 := c5 hA
        have hz0 : Z k = [] := List.length_eq_zero_iff.1 (by omega)
        rw [hz0]
        exact ⟨by simp; omega, by simpa using nil_ints W⟩
      | some ad =>
        exact ints_mk c1 c3 (fun i hi => (c6 ad hA).2 i hi) c4 (hrb k hk ad hA)
    refine ⟨some a, A, C, (List.range len).map fun r => (Z r).take (L r), cap, by rw [hcs, hlen], by rw [hlen]; exact hb, fun h0 => ?_, fun k hk => ?_⟩
    · rw [hlen] at h0
      obtain ⟨b, off, spot⟩ := a
      have hs : spot = none := by simpa [Addr.add] using World.cell?_spot (hcell 0 (by omega)).1
      subst hs
      refine ⟨b, off, rfl, fun k hk => ?_⟩
      rw [hlen] at hk
      have hc := (hcell k (by omega)).1
      rw [hrow k hk, (hrows k hk).1, ← add_plain]
      exact hc
    · rw [hlen] at hk
      rw [hrow k hk]
      exact (hrows k hk).2

end
end

section
open Go.ChangeShapes Go.WideShapes Go.ChangeAt Go.RowKit Go.Deep

end

section
open Go.RowKit Go.ChangeShapes Go.Joins Go.WideShapes

set_option maxRecDepth 100000 in
theorem game_of {H : Type} {enc : TypeId × Value → H} {W : World} {v : Value} {d : DataW H} {p : List MemPlace} {r : Reach} {b0 : Nat} (hv : Value.okWide Tryd.prog W r b0 62 v) (h : DataW.Trod enc Tryd.prog W 0 (fun _ => true) true 62 v d p) (hw : ∀ n ∈ d.weights Tryd.prog 62, n ≤ reachBytes) :
    ∃ O zss P, GameAt W v O zss P := by
  obtain ⟨cs, rfl, hsz⟩ := okWide_struct Tryd.underlying62 hv
  have hC : Tryd.prog.cellsOf 62 = 3 := by kernel_rfl
  have hA : Tryd.prog.cellsOf 60 = 2 := by kernel_rfl
  have hS : Tryd.prog.cellsOf 27 = 1 := by kernel_rfl
  have hR : Tryd.prog.cellsOf 28 = 1 := by kernel_rfl
  obtain ⟨c0, c1, c2, rfl⟩ := array3 (hsz.trans hC)
  obtain ⟨fuel, hf⟩ := h
  obtain ⟨y0, y1, n, hx, _, h0, h1⟩ := trod_struct2 Tryd.underlying62 hf
  obtain ⟨z0, z1, m, hx', _, g0, g1⟩ := trod_struct2 Tryd.underlying60 h0
  simp only [Prod.mk.injEq] at hx
  obtain ⟨rfl, rfl⟩ := hx
  subst hx'
  have k0 : DataW.trod enc Tryd.prog W 0 (fun _ => true) true m 27 [c0] = some z0 := by simpa [Value.cells, hA, hS] using g0
  have k1 : DataW.trod enc Tryd.prog W 0 (fun _ => true) true m 28 [c1] = some z1 := by simpa [Value.cells, hA, hR] using g1
  have k2 : DataW.trod enc Tryd.prog W 0 (fun _ => true) true n 27 [c2] = some y1 := by simpa [Value.cells, hS] using h1
  have hw0 : ∀ n ∈ z0.1.weights Tryd.prog 27, n ≤ reachBytes := fun n hn => hw n (by simp [DataW.weights, Tryd.underlying62, Tryd.underlying60, DataW.weightsEach, hn])
  have hw1 : ∀ n ∈ z1.1.weights Tryd.prog 28, n ≤ reachBytes := fun n hn => hw n (by simp [DataW.weights, Tryd.underlying62, Tryd.underlying60, DataW.weightsEach, hn])
  have hw2 : ∀ n ∈ y1.1.weights Tryd.prog 27, n ≤ reachBytes := fun n hn => hw n (by simp [DataW.weights, Tryd.underlying62, DataW.weightsEach, hn])
  obtain ⟨ao, O, co, rfl, hO⟩ := ints_of k0 hw0
  obtain ⟨an, A, C, zss, cn, rfl, hN⟩ := rows_of k1 hw1
  obtain ⟨ap, P, cp, rfl, hP⟩ := ints_of k2 hw2
  exact ⟨O, zss, P, ao, an, ap, co, cn, cp, A, C, rfl, hO, hN, hP⟩
end
end

section
open Go.ChangeShapes Go.WideShapes Go.ChangeAt Go.RowKit Go.Deep

end
end

section
open Go.ChangeShapes Go.WideShapes Go.ChangeAt Go.RowKit Go.Deep

end

section
open Go.ChangeShapes Go.WideShapes Go.ChangeAt Go.RowKit Go.Deep

end

end Go.Proofs.YtphkgnpkcfbnkaaDoor
