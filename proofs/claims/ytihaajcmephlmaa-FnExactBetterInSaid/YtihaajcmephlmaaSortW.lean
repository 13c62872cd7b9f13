/-
  Contracts: math/bits.Len of small numbers; slices.pdqsortCmpFunc, SortFunc and SortedFunc by weigh, over at most twelve vertices.
-/
import Derived.LoopN
import Derived.Shelf.Abstract
import Derived.Test.YtihaajcmephlmaaPo04
import Derived.Test.YtihaajcmephlmaaInsImpl
namespace Go.Proofs.Ytihaajcmephlmaa
section
open Go.RowKit Go.Shelf

set_option maxHeartbeats 4000000 in
theorem len64_small {n : Nat} (h : n ≤ 12) (w : World) : Calls Try.prog 132 #[.int .u64 n] w fun e w' => ∃ k : Int, e = .returned (.int .i64 k) ∧ w = w' := by
  have hc : n = 0 ∨ n = 1 ∨ n = 2 ∨ n = 3 ∨ n = 4 ∨ n = 5 ∨ n = 6 ∨ n = 7 ∨ n = 8 ∨ n = 9 ∨ n = 10 ∨ n = 11 ∨ n = 12 := by omega
  rcases hc with rfl | rfl | rfl | rfl | rfl | rfl | rfl | rfl | rfl | rfl | rfl | rfl | rfl
  all_goals (
    go_enter Try.func132, Try.ntmps132
    go_wp2
    go_ret
    exact ⟨_, rfl, rfl⟩)
theorem len_small {n : Nat} (h : n ≤ 12) (w : World) : Calls Try.prog 114 #[.int .u64 n] w fun e w' => ∃ k : Int, e = .returned (.int .i64 k) ∧ w = w' := by
  have HC := Lib.hid (len64_small h w)
  go_enter Try.func114, Try.ntmps114
  go_wp2_with fail
  refine HC.out.mono ?_
  rintro e w2 ⟨k, rfl, rfl⟩
  go_wp2
  go_ret
  exact ⟨k, rfl, rfl⟩

set_option linter.unusedSimpArgs false in
set_option maxRecDepth 100000 in
set_option maxHeartbeats 8000000 in
theorem pdq_is {w0 w : World} {v : Value} {O P : List Int} {zss : List (List Int)} {B g cap n : Nat} {F0 : Nat → Nat} {k : Int} (hn0 : 0 < n) (hnP : n = P.length) (hn : n ≤ 12) (hB : w0.heap.size ≤ B) (hG : GameAt w0 v O zss P) (hW : InsW w0 w B g cap n F0) :
    Calls Try.prog 117 #[.slice (some ⟨g, 0, none⟩) n cap, .int .i64 0, .int .i64 n, .int .i64 k, .func (.func 50) #[v] #[]] w fun e w' => e = .returned (.tuple #[]) ∧ ∃ F, InsW w0 w' B g cap n F ∧ UpP P F n := by
  have HC := Lib.hid (insertion_is hn0 hnP (by omega) hB hG hW)
  have hn1 : (n : Int) ≤ 12 := by omega
  clear hG hW hnP
  go_enter Try.func117, Try.ntmps117
  go_wp2
  refine wp_loop_rounds 1 ?_
  rw [rounds_succ]
  go_wp2_with (go_at_call 133; refine HC.out.mono ?_; rintro e w2 ⟨rfl, F, h1, h2⟩; have H1 := Lib.hid h1; have H2 := Lib.hid h2; clear h1 h2)
  (try simp only [Exit.inBlock, Exit.then]); refine bodyPost_ret (results_none rfl _ _ _) rfl ?_
  exact ⟨rfl, F, H1.out, H2.out⟩

set_option linter.unusedSimpArgs false in
set_option maxRecDepth 100000 in
set_option maxHeartbeats 8000000 in
theorem sortW_is {w0 w : World} {v : Value} {O P : List Int} {zss : List (List Int)} {B g cap n : Nat} {F0 : Nat → Nat} (hn0 : 0 < n) (hnP : n = P.length) (hn : n ≤ 12) (hB : w0.heap.size ≤ B) (hG : GameAt w0 v O zss P) (hW : InsW w0 w B g cap n F0) :
    Calls Try.prog 100 #[.slice (some ⟨g, 0, none⟩) n cap, .func (.func 50) #[v] #[]] w fun e w' => e = .returned (.tuple #[]) ∧ ∃ F, InsW w0 w' B g cap n F ∧ UpP P F n := by
  have HC := Lib.hid (fun k => pdq_is (k := k) hn0 hnP hn hB hG hW)
  have HL := Lib.hid (len_small hn w)
  have hwr : IntKind.u64.wrap (n : Int) = (n : Int) := by unfold IntKind.wrap; simp [IntKind.bits, IntKind.signed]; omega
  clear hG hW hnP
  go_enter Try.func100, Try.ntmps100
  go_wp2_with (first | (go_at_call 114; refine HL.out.mono ?_; rintro e w2 ⟨k, rfl, rfl⟩) | (go_at_call 117; refine (HC.out _).mono ?_; rintro e w3 ⟨rfl, F, h1, h2⟩; have H1 := Lib.hid h1; have H2 := Lib.hid h2; clear h1 h2))
  go_end0
  exact ⟨rfl, F, H1.out, H2.out⟩

theorem row_nat {n : Nat} : (upL n).map (Value.int .i64) = (fnL n (fun i => (((fun i => i) i : Nat) : Int))).map (Value.int .i64) := by
  congr 1
set_option linter.unusedSimpArgs false in
set_option maxRecDepth 100000 in
set_option maxHeartbeats 8000000 in
theorem sortedFunc_is {w0 w : World} {v : Value} {O P : List Int} {zss : List (List Int)} {n Bs ca : Nat} {a : Option Addr} (hn0 : 0 < n) (hnP : n = P.length) (hn : n ≤ 12) (hb0 : Below w0.heap.size w0 w) (hBs : Bs < w.heap.size) (hc : w.cell? ⟨Bs, 0, none⟩ = some (.slice a n ca)) (hI : IntsAt w a (upL n)) (hG : GameAt w0 v O zss P) :
    Calls Try.prog 70 #[.func (.func 101) #[] #[.pointer (some ⟨Bs, 0, none⟩)], .func (.func 50) #[v] #[]] w fun e w' => ∃ g cap F, e = .returned (.slice (some ⟨g, 0, none⟩) n cap) ∧ InsW w0 w' w.heap.size g cap n F ∧ UpP P F n ∧ Below w.heap.size w w' := by
  have hul : (upL n).length = n := by simp [upL]
  have HCl := Lib.hid (Collect_is (zs := upL n) ca Bs hBs (by rw [hul]; exact hc) hI (by rw [hul]; omega))
  have HGm := Lib.hid hG
  have HB0 := Lib.hid hb0
  have HNP := Lib.hid hnP
  clear hc hI hG hb0 hnP
  go_enter Try.func70, Try.ntmps70
  go_wp2_with fail
  refine HCl.out.mono ?_
  rintro e w2 ⟨x, rfl, ho, hb⟩
  rw [hul] at ho
  obtain ⟨g, cap, rfl, hcap, hcm, hgB⟩ := own_top ho hn0
  have HW : Hid (InsW w w2 w.heap.size g cap n (fun i => i)) := by
    refine ⟨OwnInts.mk' (by rw [fnL_len]; exact ho) (by rw [fnL_len]; omega) (fun k hk => ?_), ⟨fun a ha => ha, fun a b _ _ h => h⟩, hb⟩
    rw [fnL_len] at hk
    rw [fnL_nth hk]
    unfold Fits
    omega
  have HS := Lib.hid (sortW_is hn0 HNP.out hn (Nat.le_refl _) (HGm.out.below HB0.out) HW.out)
  clear ho hb HCl
  go_wp2_with fail
  refine HS.out.mono ?_
  rintro e w3 ⟨rfl, F, h1, h2⟩
  have H1 : Hid (InsW w0 w3 w.heap.size g cap n F) := ⟨h1.own, h1.sort, HB0.out.trans (h1.below.mono HB0.out.size)⟩
  have H2 := Lib.hid h2
  have H3 := Lib.hid h1.below
  clear h1 h2 HS
  go_wp2
  go_ret
  exact ⟨g, cap, F, rfl, H1.out, H2.out, H3.out⟩
end
end Go.Proofs.Ytihaajcmephlmaa
