/-
  Several texts in one: WonIn, RecurSpec, Cat1, Distinct, MeasMath, MeasVal, SameParity.
-/
import Derived.Deep.RegionHeld3
import Derived.Shelf.SlGeneric
import Derived.Shelf.SortM.Plain
import Derived.Shelf.SortM.SortNone
import Derived.Ground.SlgmProg
import Derived.Test.YtihaajcmephlmaaDoorProg
import Derived.Sort.OwnSortedInts
import Derived.Shelf.SlicesE.Compact
import Derived.Ground.SlgnProg
import Derived.Lib.AppendZeros
import Derived.Lib.OwnBridge
import Derived.RangeFuncBox
import Derived.RangeFuncLeaves
import Derived.RangeFuncBound
import Derived.Shelf.Abstract
import Derived.WalkKit
import Derived.OwnWalkIn
import Derived.TacticsInMore
import Derived.LoopNIn
import Derived.LoopIn
import Derived.Maps.AppendAt
import Derived.Test.YtihaajcmephlmaaDoorPx00
import Derived.Test.YtihaajcmephlmaaDoorPx02
import Derived.Test.YtihaajcmephlmaaDoorPx01
import Derived.Test.YtihaajcmephlmaaDoorPx03
namespace Go.Proofs.YtihaajcmephlmaaDoor
section
open Go.RowKit

section
variable {zss : List (List Int)} {O P : List Int}

end
end

section
open Go.RowKit

end

end Go.Proofs.YtihaajcmephlmaaDoor
namespace Go.Proofs.YtihaajcmephlmaaDoor
section
open Go.RowKit

set_option maxHeartbeats 4000000 in
set_option maxRecDepth 100000 in
theorem l7HasIn_is {w : World} {a : Option Addr} {zs : List Int} {x : Int} {r : Bool} (hr : hasB zs x = r) (cap : Nat) (h : IntsAt w a zs) :
    Calls Tryd.prog 59 #[.slice a zs.length cap, .int .i64 x] w fun e w' => e = .returned (.bool r) ∧ w = w' := by
  have H := Lib.hid h
  have hl := h.len
  have HN : Hid (x ∉ zs → r = false) := fun h => by rw [← hr]; unfold hasB; exact decide_eq_false h
  have HE : Hid (x ∈ zs → r = true) := fun h => by rw [← hr]; unfold hasB; exact decide_eq_true h
  clear h hr
  go_enter Tryd.func59, Tryd.ntmps59
  go_wp2
  go_loopw [5] (fun iv wr => ∃ k : Nat, k ≤ zs.length ∧ iv = .int .i64 k ∧ Hid (∀ j, j < k → nth zs j ≠ x) ∧ w = wr) (fun iv _ => zs.length - (intOf iv).toNat)
  case atStart => exact ⟨0, Nat.zero_le _, rfl, fun j hj => absurd hj (Nat.not_lt_zero _), rfl⟩
  case round =>
    obtain ⟨k, hk, rfl, HJ, rfl⟩ := hrel
    by_cases hlt : k < zs.length
    · have hi1 : (k : Int) < zs.length := by omega
      have hk0 : (0 : Int) ≤ (k : Int) := by omega
      obtain ⟨b, off, ha, hc⟩ := H.out.cell (by omega)
      have z1 := hc k hlt
      obtain ⟨z, hz⟩ : ∃ q, q = nth zs k := ⟨_, rfl⟩
      rw [← hz] at z1
      have HZ := Lib.hid hz
      subst ha
      clear hc hz
      by_cases e : z = x
      · have he : (z == x) = true := by simpa using e
        have HF : Hid (r = true) := HE.out (by rw [← e, HZ.out]; exact nth_mem hlt)
        clear e
        go_wp2
        go_ret
        exact ⟨ret_bool HF.out.symm, rfl⟩
      · have he : (z == x) = false := beq_eq_false_iff_ne.2 e
        have HJn : Hid (∀ j, j < k + 1 → nth zs j ≠ x) := fun j hj => by
          by_cases h : j = k
          · subst h; rw [← HZ.out]; exact e
          · exact HJ.out j (by omega)
        clear e
        go_wp2
        go_roundw
        case rel => exact ⟨k + 1, by omega, by go_num, HJn, by simp⟩
        case measure => simp [intOf]; omega
    · have hi1 : ¬ (k : Int) < zs.length := by omega
      have HF : Hid (r = false) := HN.out fun h => by
        obtain ⟨j, hj, e⟩ := mem_nth.1 h
        exact HJ.out j (by omega) e
      go_wp2
      go_ret
      exact ⟨ret_bool HF.out.symm, rfl⟩

end

section
open Go.RowKit

end

section
open Go.RowKit

end

end Go.Proofs.YtihaajcmephlmaaDoor
namespace Go.Proofs.YtihaajcmephlmaaDoor
section
section
open Go.Shelf
def sortLays_ren : Go.Shelf.Ren := ⟨fun | 5 => 100 | 8 => 104 | 7 => 103 | 19 => 114 | 20 => 115 | 10 => 105 | 11 => 106 | 12 => 107 | 13 => 108 | 14 => 109 | 15 => 110 | 16 => 111 | 17 => 112 | 18 => 113 | 30 => 116 | 31 => 117 | 32 => 118 | 33 => 119 | 34 => 120 | 35 => 97 | 40 => 121 | n => n, fun | 23 => 22 | 25 => 2 | 3 => 3 | 32 => 87 | 22 => 22 | 0 => 0 | 44 => 100 | 46 => 103 | 4 => 4 | 36 => 118 | 35 => 117 | 41 => 123 | 5 => 5 | 9 => 9 | 53 => 127 | 57 => 131 | 63 => 133 | 64 => 134 | n => n, fun | n => n⟩
theorem sortLays : Go.Proofs.SlLaysM.n5 Tryd.prog sortLays_ren := {
  mixed := by kernel_rfl
  f5 := ⟨Tryd.f100.name, by decide, Tryd.func100.trans (congrArg some (by kernel_rfl))⟩
  f7 := ⟨Tryd.f103.name, by decide, Tryd.func103.trans (congrArg some (by kernel_rfl))⟩
  f8 := Tryd.func104.trans (congrArg some (by kernel_rfl))
  f10 := ⟨Tryd.f105.name, by decide, Tryd.func105.trans (congrArg some (by kernel_rfl))⟩
  f11 := ⟨Tryd.f106.name, by decide, Tryd.func106.trans (congrArg some (by kernel_rfl))⟩
  f12 := ⟨Tryd.f107.name, by decide, Tryd.func107.trans (congrArg some (by kernel_rfl))⟩
  f13 := ⟨Tryd.f108.name, by decide, Tryd.func108.trans (congrArg some (by kernel_rfl))⟩
  f14 := ⟨Tryd.f109.name, by decide, Tryd.func109.trans (congrArg some (by kernel_rfl))⟩
  f15 := ⟨Tryd.f110.name, by decide, Tryd.func110.trans (congrArg some (by kernel_rfl))⟩
  f16 := ⟨Tryd.f111.name, by decide, Tryd.func111.trans (congrArg some (by kernel_rfl))⟩
  f17 := ⟨Tryd.f112.name, by decide, Tryd.func112.trans (congrArg some (by kernel_rfl))⟩
  f18 := ⟨Tryd.f113.name, by decide, Tryd.func113.trans (congrArg some (by kernel_rfl))⟩
  f19 := Tryd.func114.trans (congrArg some (by kernel_rfl))
  f20 := Tryd.func115.trans (congrArg some (by kernel_rfl))
  f30 := ⟨Tryd.f116.name, by decide, Tryd.func116.trans (congrArg some (by kernel_rfl))⟩
  f31 := Tryd.func117.trans (congrArg some (by kernel_rfl))
  f32 := Tryd.func118.trans (congrArg some (by kernel_rfl))
  f33 := ⟨Tryd.f119.name, by decide, Tryd.func119.trans (congrArg some (by kernel_rfl))⟩
  f34 := ⟨Tryd.f120.name, by decide, Tryd.func120.trans (congrArg some (by kernel_rfl))⟩
  f35 := ⟨Tryd.f97.name, by decide, Tryd.func97.trans (congrArg some (by kernel_rfl))⟩
  f40 := ⟨Tryd.f121.name, by decide, Tryd.func121.trans (congrArg some (by kernel_rfl))⟩
  t0 := Tryd.underlying0
  a0 := Tryd.isAgg0
  z0 := Tryd.sizeOf0
  v0 := Tryd.zeroValue0
  t3 := Tryd.underlying3
  a3 := Tryd.isAgg3
  z3 := Tryd.sizeOf3
  v3 := Tryd.zeroValue3
  t4 := Tryd.underlying4
  a4 := Tryd.isAgg4
  z4 := Tryd.sizeOf4
  v4 := Tryd.zeroValue4
  t5 := Tryd.underlying5
  a5 := Tryd.isAgg5
  z5 := Tryd.sizeOf5
  v5 := Tryd.zeroValue5
  t9 := Tryd.underlying9
  a9 := Tryd.isAgg9
  z9 := Tryd.sizeOf9
  v9 := Tryd.zeroValue9
  t22 := Tryd.underlying22
  a22 := Tryd.isAgg22
  z22 := Tryd.sizeOf22
  v22 := Tryd.zeroValue22
  t23 := Tryd.underlying22
  a23 := Tryd.isAgg22
  z23 := Tryd.sizeOf22
  v23 := Tryd.zeroValue22
  t25 := Tryd.underlying2
  a25 := Tryd.isAgg2
  z25 := Tryd.sizeOf2
  v25 := Tryd.zeroValue2
  t32 := Tryd.underlying87
  a32 := Tryd.isAgg87
  z32 := Tryd.sizeOf87
  v32 := Tryd.zeroValue87
  t35 := Tryd.underlying117
  a35 := Tryd.isAgg117
  z35 := Tryd.sizeOf117
  v35 := Tryd.zeroValue117
  t36 := Tryd.underlying118
  a36 := Tryd.isAgg118
  z36 := Tryd.sizeOf118
  v36 := Tryd.zeroValue118
  t41 := Tryd.underlying123
  a41 := Tryd.isAgg123
  z41 := Tryd.sizeOf123
  v41 := Tryd.zeroValue123
  t44 := Tryd.underlying100
  a44 := Tryd.isAgg100
  z44 := Tryd.sizeOf100
  v44 := Tryd.zeroValue100
  t46 := Tryd.underlying103
  a46 := Tryd.isAgg103
  z46 := Tryd.sizeOf103
  v46 := Tryd.zeroValue103
  t53 := Tryd.underlying127
  a53 := Tryd.isAgg127
  z53 := Tryd.sizeOf127
  v53 := Tryd.zeroValue127
  t57 := Tryd.underlying131
  a57 := Tryd.isAgg131
  z57 := Tryd.sizeOf131
  v57 := Tryd.zeroValue131
  t63 := Tryd.underlying133
  a63 := Tryd.isAgg133
  z63 := Tryd.sizeOf133
  v63 := Tryd.zeroValue133
  t64 := Tryd.underlying134
  a64 := Tryd.isAgg134
  z64 := Tryd.sizeOf134
  v64 := Tryd.zeroValue134 }
end

section
open Go.RowKit Go.Sort

theorem sort_own {w : World} {B : Nat} {v : Value} {zs : List Int} (h : w.ownsRow B 2 1 v zs.length (zs.map (Value.int .i64))) (hl : zs.length ≤ 1048576) :
    Calls Tryd.prog 100 #[v] w fun e w' => e = .returned (.tuple #[]) ∧ w'.ownsRow B 2 1 v zs.length ((zs.mergeSort fun x y => decide (x ≤ y)).map (Value.int .i64)) ∧ Only (fun b => v.ownBlock = some b) w w' := by
  rcases h.2 with ⟨hv, h0⟩ | ⟨g, cap, cur, hv, hg, hb, hc, hm, hcs, ht⟩
  · have hz : zs = [] := List.length_eq_zero_iff.1 h0
    subst hz
    subst hv
    refine (AnyM.slices_Sort_int_none sortLays none 0 w).mono ?_
    rintro e w' ⟨rfl, rfl⟩
    exact ⟨rfl, by simpa using h, Only.refl _ _⟩
  · subst hv
    have hlt : g < w.heap.size := (Array.getElem?_eq_some_iff.1 hb).1
    refine (AnyM.slices_Sort_int sortLays g 0 cap zs w (holds_of_blockI hb (by simpa using ht)) hlt (by omega)).mono ?_
    rintro e w' ⟨rfl, n, os, rfl⟩
    refine ⟨rfl, ownsRow_sortedI (List.length_mergeSort _) hg hb hc hm hcs, ?_⟩
    exact (Only.of_grown (grownBy_sortedI (w := w) (g := g) (n := n) (os := os) _)).mono fun b hb => by simpa [Value.ownBlock] using hb
end
end

section
open Go.Shelf
end

section
open Go.Shelf
end

section
open Go.RowKit Go.Sort

end

section
open Go.RowKit

end

end Go.Proofs.YtihaajcmephlmaaDoor
namespace Go.Proofs.YtihaajcmephlmaaDoor
section
open Go.RowKit

/-- The greatest of the first k + 1. -/
def maxN (zs : List Int) : Nat → Int
  | 0 => nth zs 0
  | k + 1 => if maxN zs k < nth zs (k + 1) then nth zs (k + 1) else maxN zs k
/-- The least of the first k + 1. -/
def minN (zs : List Int) : Nat → Int
  | 0 => nth zs 0
  | k + 1 => if nth zs (k + 1) < minN zs k then nth zs (k + 1) else minN zs k
theorem maxN_ge {zs : List Int} : ∀ {k j : Nat}, j ≤ k → nth zs j ≤ maxN zs k
  | 0, j, h => by have : j = 0 := by omega
                  subst this; exact Int.le_refl _
  | k + 1, j, h => by
    rw [maxN]
    by_cases e : j = k + 1
    · subst e; split <;> omega
    · have := maxN_ge (zs := zs) (k := k) (j := j) (by omega); split <;> omega
theorem maxN_at {zs : List Int} : ∀ k, ∃ j, j ≤ k ∧ nth zs j = maxN zs k
  | 0 => ⟨0, Nat.le_refl _, rfl⟩
  | k + 1 => by
    rw [maxN]
    obtain ⟨j, hj, e⟩ := maxN_at (zs := zs) k
    by_cases h : maxN zs k ≤ nth zs (k + 1)
    · exact ⟨k + 1, Nat.le_refl _, by split <;> omega⟩
    · exact ⟨j, by omega, by split <;> omega⟩
theorem minN_le {zs : List Int} : ∀ {k j : Nat}, j ≤ k → minN zs k ≤ nth zs j
  | 0, j, h => by have : j = 0 := by omega
                  subst this; exact Int.le_refl _
  | k + 1, j, h => by
    rw [minN]
    by_cases e : j = k + 1
    · subst e; split <;> omega
    · have := minN_le (zs := zs) (k := k) (j := j) (by omega); split <;> omega
theorem minN_at {zs : List Int} : ∀ k, ∃ j, j ≤ k ∧ nth zs j = minN zs k
  | 0 => ⟨0, Nat.le_refl _, rfl⟩
  | k + 1 => by
    rw [minN]
    obtain ⟨j, hj, e⟩ := minN_at (zs := zs) k
    by_cases h : nth zs (k + 1) ≤ minN zs k
    · exact ⟨k + 1, Nat.le_refl _, by split <;> omega⟩
    · exact ⟨j, by omega, by split <;> omega⟩

set_option maxHeartbeats 2000000 in
set_option maxRecDepth 100000 in
theorem Max_is {w : World} {a : Option Addr} {zs : List Int} {m : Int} (cap : Nat) (hm : maxN zs (zs.length - 1) = m) (h : IntsAt w a zs) (hz : 0 < zs.length) :
    Calls Tryd.prog 80 #[.slice a zs.length cap] w fun e w' => e = .returned (.int .i64 m) ∧ w = w' := by
  have hlen := h.len
  obtain ⟨b, off, ha, hc⟩ := h.cell hz
  subst ha
  have h0 := hc 0 hz
  rw [Nat.add_zero] at h0
  have HC := Lib.hid hc
  have HM := Lib.hid hm
  obtain ⟨n, hn⟩ : ∃ n, n = zs.length := ⟨_, rfl⟩
  rw [← hn] at hlen hz ⊢
  have HN := Lib.hid hn
  have h1 : ¬ (n : Int) < 1 := by omega
  have h2 : (0 : Int) < n := by omega
  clear hc hm h hn
  go_enter Tryd.func80, Tryd.ntmps80
  go_wp2
  go_loopw [3, 4] (fun mv iv wr => ∃ k : Nat, k + 1 ≤ n ∧ iv = .int .i64 ((k : Int) + 1) ∧ mv = .int .i64 (maxN zs k) ∧ wr = w) (fun _ iv _ => n + 1 - (intOf iv).toNat)
  case atStart => exact ⟨0, by omega, rfl, rfl, rfl⟩
  case round =>
    obtain ⟨k, hk, rfl, rfl, rfl⟩ := hrel
    by_cases hlt : k + 1 < n
    · have hi1 : (k : Int) + 1 < n := by omega
      have hi0 : (0 : Int) ≤ (k : Int) + 1 := by omega
      have hw : IntKind.i64.wrap ((k : Int) + 1 + 1) = (k : Int) + 1 + 1 := IntWalk.i64_in _ (by omega)
      have ht : ((k : Int) + 1).toNat = k + 1 := by omega
      have c1 := HC.out (k + 1) (by have := HN.out; omega)
      have HS : Hid (maxN zs (k + 1) = if maxN zs k < nth zs (k + 1) then nth zs (k + 1) else maxN zs k) := rfl
      obtain ⟨q, hq⟩ : ∃ q, q = maxN zs k := ⟨_, rfl⟩
      obtain ⟨x, hx⟩ : ∃ x, x = nth zs (k + 1) := ⟨_, rfl⟩
      rw [← hq, ← hx] at HS
      rw [← hx] at c1
      rw [← hq]
      clear hq hx
      go_wp2
      go_roundw
      case rel => exact ⟨k + 1, by omega, by go_num, by rw [HS.out]; first | done | (congr 1; split <;> omega), by first | rfl | trivial⟩
      case measure => simp [intOf]; omega
    · have hi1 : ¬ (k : Int) + 1 < n := by omega
      have HE : Hid (maxN zs k = m) := by rw [← HM.out, show zs.length - 1 = k by have := HN.out; omega]; rfl
      go_wp2
      go_ret
      exact ⟨ret_i64 HE.out, rfl⟩

set_option maxHeartbeats 2000000 in
set_option maxRecDepth 100000 in
theorem Min_is {w : World} {a : Option Addr} {zs : List Int} {m : Int} (cap : Nat) (hm : minN zs (zs.length - 1) = m) (h : IntsAt w a zs) (hz : 0 < zs.length) :
    Calls Tryd.prog 79 #[.slice a zs.length cap] w fun e w' => e = .returned (.int .i64 m) ∧ w = w' := by
  have hlen := h.len
  obtain ⟨b, off, ha, hc⟩ := h.cell hz
  subst ha
  have h0 := hc 0 hz
  rw [Nat.add_zero] at h0
  have HC := Lib.hid hc
  have HM := Lib.hid hm
  obtain ⟨n, hn⟩ : ∃ n, n = zs.length := ⟨_, rfl⟩
  rw [← hn] at hlen hz ⊢
  have HN := Lib.hid hn
  have h1 : ¬ (n : Int) < 1 := by omega
  have h2 : (0 : Int) < n := by omega
  clear hc hm h hn
  go_enter Tryd.func79, Tryd.ntmps79
  go_wp2
  go_loopw [3, 4] (fun mv iv wr => ∃ k : Nat, k + 1 ≤ n ∧ iv = .int .i64 ((k : Int) + 1) ∧ mv = .int .i64 (minN zs k) ∧ wr = w) (fun _ iv _ => n + 1 - (intOf iv).toNat)
  case atStart => exact ⟨0, by omega, rfl, rfl, rfl⟩
  case round =>
    obtain ⟨k, hk, rfl, rfl, rfl⟩ := hrel
    by_cases hlt : k + 1 < n
    · have hi1 : (k : Int) + 1 < n := by omega
      have hi0 : (0 : Int) ≤ (k : Int) + 1 := by omega
      have hw : IntKind.i64.wrap ((k : Int) + 1 + 1) = (k : Int) + 1 + 1 := IntWalk.i64_in _ (by omega)
      have ht : ((k : Int) + 1).toNat = k + 1 := by omega
      have c1 := HC.out (k + 1) (by have := HN.out; omega)
      have HS : Hid (minN zs (k + 1) = if nth zs (k + 1) < minN zs k then nth zs (k + 1) else minN zs k) := rfl
      obtain ⟨q, hq⟩ : ∃ q, q = minN zs k := ⟨_, rfl⟩
      obtain ⟨x, hx⟩ : ∃ x, x = nth zs (k + 1) := ⟨_, rfl⟩
      rw [← hq, ← hx] at HS
      rw [← hx] at c1
      rw [← hq]
      clear hq hx
      go_wp2
      go_roundw
      case rel => exact ⟨k + 1, by omega, by go_num, by rw [HS.out]; first | done | (congr 1; split <;> omega), by first | rfl | trivial⟩
      case measure => simp [intOf]; omega
    · have hi1 : ¬ (k : Int) + 1 < n := by omega
      have HE : Hid (minN zs k = m) := by rw [← HM.out, show zs.length - 1 = k by have := HN.out; omega]; rfl
      go_wp2
      go_ret
      exact ⟨ret_i64 HE.out, rfl⟩
end

section
open Go.Shelf
def compactInts_ren : Go.Shelf.Ren := ⟨fun | 43 => 94 | n => n, fun | 22 => 22 | 23 => 2 | 3 => 3 | 4 => 4 | 0 => 0 | n => n, fun | n => n⟩
theorem compactInts : Go.Proofs.SlLaysE.n43 Tryd.prog compactInts_ren := {
  mixed := by kernel_rfl
  f43 := ⟨Tryd.f94.name, by decide, Tryd.func94.trans (congrArg some (by kernel_rfl))⟩
  t0 := Tryd.underlying0
  a0 := Tryd.isAgg0
  z0 := Tryd.sizeOf0
  v0 := Tryd.zeroValue0
  t3 := Tryd.underlying3
  a3 := Tryd.isAgg3
  z3 := Tryd.sizeOf3
  v3 := Tryd.zeroValue3
  t4 := Tryd.underlying4
  a4 := Tryd.isAgg4
  z4 := Tryd.sizeOf4
  v4 := Tryd.zeroValue4
  t22 := Tryd.underlying22
  a22 := Tryd.isAgg22
  z22 := Tryd.sizeOf22
  v22 := Tryd.zeroValue22
  a23 := Tryd.isAgg2
  z23 := Tryd.sizeOf2 }
end

section
open Go.RowKit Go.Shelf Go.Sort

attribute [local go_sem] Oper.semAt_some

theorem take_next {zs : List Int} {k : Nat} (h : k < zs.length) : zs.take (k + 1) = zs.take k ++ [nth zs k] := by
  rw [List.take_add_one, List.getElem?_eq_getElem h, nth_eq h]; rfl

set_option maxRecDepth 100000 in
set_option maxHeartbeats 2000000 in
/-- What slices.Values hands back, called with a loop's body. -/
theorem values1_in (F : Fence) (m : Nat) (hF : F.fn 101) (hro : F.round = none) (hm : 1 ≤ m) (l Bs n₀ b off cap : Nat) (zs : List Int) (hreach : zs.length ≤ 1048576) (hb : b < n₀) (J Jx : List Int → World → Prop)
    (hY : ∀ pre x W, J pre W → pre.length < zs.length → YieldAt F (m - 1) Tryd.prog l #[.int .i64 x] W fun e W' =>
      (e = .returned (.bool true) ∧ J (pre ++ [x]) W' ∧ Below n₀ W W') ∨ (e = .returned (.bool false) ∧ Jx (pre ++ [x]) W'))
    (W : World) (hBs : W.cell? ⟨Bs, 0, none⟩ = some (.slice (some ⟨b, off, none⟩) zs.length cap)) (hc : ∀ j, j < zs.length → W.cell? ⟨b, off + j, none⟩ = some (.int .i64 (nth zs j))) (h0 : J [] W) :
    CallsIn F m Tryd.prog 101 #[.func (.yield l) #[] #[], .pointer (some ⟨Bs, 0, none⟩)] W fun e W' => (∃ v, e = .returned v) ∧
      ((∃ ys, ys = zs ∧ J ys W') ∨ (∃ pre, (∃ k, k ≤ zs.length ∧ pre = zs.take k) ∧ Jx pre W')) := by
  refine callsIn_of_wp Tryd.func101 rfl hF ?_ hro
  simp only [Tryd.ntmps101, List.size_toArray, List.length_cons, List.length_nil, Nat.reduceAdd, Nat.reduceSub, Array.replicate_succ, Array.replicate_zero, List.push_toArray, List.append_toArray, List.nil_append, List.cons_append]
  gi_wp2
  gi_loopw [7] (fun i wr => ∃ k : Nat, k ≤ zs.length ∧ i = .int .i64 k ∧ J (zs.take k) wr ∧ Below n₀ W wr) (fun i _ => zs.length - (intOf i).toNat)
  case atStart => exact ⟨0, Nat.zero_le _, rfl, by simpa using h0, Below.refl _ _⟩
  case round =>
    obtain ⟨k, hk, rfl, hJs, hnx⟩ := hrel
    by_cases hlt : k < zs.length
    · have hcx : wr.cell? ⟨b, off + k, none⟩ = some (.int .i64 (nth zs k)) := (hnx.cell (p := ⟨b, off + k, none⟩) hb).trans (hc k hlt)
      have hY1 := hY _ (nth zs k) wr hJs (by rw [List.length_take]; omega)
      rw [← take_next hlt] at hY1
      obtain ⟨fn, tmps, assign, body, hy, hR⟩ := hY1
      gi_wp2
      refine hR.mono ?_
      rintro e W3 (⟨rfl, hJ3, hk3⟩ | ⟨rfl, hJx3⟩)
      · gi_wp2
        go_roundw
        case rel => exact ⟨k + 1, by omega, by go_num, hJ3, hnx.trans hk3⟩
        case measure => simp [intOf]; omega
      · gi_wp2
        refine bodyPost_ret (results_none rfl _ _ _) rfl ?_
        exact ⟨⟨_, rfl⟩, .inr ⟨_, ⟨k + 1, by omega, rfl⟩, hJx3⟩⟩
    · obtain rfl : k = zs.length := by omega
      gi_wp2
      go_end0
      exact ⟨⟨_, rfl⟩, .inl ⟨_, List.take_length, hJs⟩⟩

set_option maxRecDepth 100000 in
set_option maxHeartbeats 1000000 in
/-- .. at no numbers. -/
theorem values1_nil_in (F : Fence) (m : Nat) (hF : F.fn 101) (hro : F.round = none) (l Bs : Nat) (J : List Int → World → Prop) (W : World) (a : Option Addr) (cap : Nat) (hBs : W.cell? ⟨Bs, 0, none⟩ = some (.slice a 0 cap)) (h0 : J [] W) :
    CallsIn F m Tryd.prog 101 #[.func (.yield l) #[] #[], .pointer (some ⟨Bs, 0, none⟩)] W fun e W' => (∃ v, e = .returned v) ∧ J [] W' := by
  refine callsIn_of_wp Tryd.func101 rfl hF ?_ hro
  simp only [Tryd.ntmps101, List.size_toArray, List.length_cons, List.length_nil, Nat.reduceAdd, Nat.reduceSub, Array.replicate_succ, Array.replicate_zero, List.push_toArray, List.append_toArray, List.nil_append, List.cons_append]
  gi_wp2
  gi_loopw [7] (fun i wr => i = .int .i64 0 ∧ J [] wr) (fun _ _ => 0)
  case atStart => exact ⟨rfl, h0⟩
  case round =>
    obtain ⟨rfl, hJs⟩ := hrel
    gi_wp2
    go_end0
    exact ⟨⟨_, rfl⟩, hJs⟩

set_option maxHeartbeats 1000000 in
theorem Values_is (a : Option Addr) (len cap : Nat) (w : World) :
    Calls Tryd.prog 96 #[.slice a len cap] w fun e w' => e = .returned (.func (.func 101) #[] #[.pointer (some ⟨w.heap.size, 0, none⟩)]) ∧ w' = w.alloc (.cells #[.slice a len cap] 22) := by
  go_enter Tryd.func96, Tryd.ntmps96
  go_wp2
  go_ret
  exact ⟨rfl, rfl⟩

/-- What slices.Values hands back goes over the numbers, in order. -/
theorem values_stops (F : Fence) (m : Nat) (hF : F.fn 101) (hro : F.round = none) (hm : 1 ≤ m) (Bs n₀ cap : Nat) (a : Option Addr) (zs : List Int) (hreach : zs.length ≤ 1048576) (w : World) (hBs : Bs < w.heap.size) (hn₀ : n₀ ≤ w.heap.size)
    (hc : w.cell? ⟨Bs, 0, none⟩ = some (.slice a zs.length cap)) (hI : zs ≠ [] → ∃ b off, a = some ⟨b, off, none⟩ ∧ b < n₀ ∧ ∀ j, j < zs.length → w.cell? ⟨b, off + j, none⟩ = some (.int .i64 (nth zs j))) :
    SeqStopsK F m Tryd.prog 101 #[.pointer (some ⟨Bs, 0, none⟩)] (fun x : Int => #[Value.int .i64 x]) (Below n₀) (fun ys => ys = zs) (fun pre => ∃ k, k ≤ zs.length ∧ pre = zs.take k) zs.length w := fun l J Jx W hW _ _ hY h0 => by
  have hc' := (hW.cell (p := ⟨Bs, 0, none⟩) hBs).trans hc
  by_cases hz : zs = []
  · subst hz
    exact (values1_nil_in F m hF hro l Bs J W a cap hc' h0).mono fun e W' ⟨he, hj⟩ => ⟨he, .inl ⟨_, rfl, hj⟩⟩
  · obtain ⟨b, off, rfl, hb, hcs⟩ := hI hz
    exact values1_in F m hF hro hm l Bs n₀ b off cap zs hreach hb J Jx hY W hc' (fun j hj => (hW.cell (p := ⟨b, off + j, none⟩) (by show b < w.heap.size; omega)).trans (hcs j hj)) h0

set_option maxRecDepth 100000 in
set_option maxHeartbeats 2000000 in
theorem AppendSeq_is {w : World} {a : Option Addr} {zs : List Int} (cap Bs : Nat) (hBs : Bs < w.heap.size) (hc : w.cell? ⟨Bs, 0, none⟩ = some (.slice a zs.length cap)) (hI : IntsAt w a zs) (hl : zs.length ≤ 1048576) :
    Calls Tryd.prog 102 #[.slice none 0 0, .func (.func 101) #[] #[.pointer (some ⟨Bs, 0, none⟩)]] w fun e W' => ∃ v, e = .returned v ∧ W'.ownsRow w.heap.size 2 1 v zs.length (zs.map (Value.int .i64)) ∧ Below w.heap.size w W' := by
  obtain ⟨i0, hi, hz0, hz1, hz2⟩ := info_parts info_int
  have hIb : zs ≠ [] → ∃ b off, a = some ⟨b, off, none⟩ ∧ b < w.heap.size ∧ ∀ j, j < zs.length → w.cell? ⟨b, off + j, none⟩ = some (.int .i64 (nth zs j)) := fun hz => by
    have hpos : 0 < zs.length := List.length_pos_iff.2 hz
    obtain ⟨b, off, ha, hcs⟩ := hI.cell hpos
    exact ⟨b, off, ha, World.block_lt_of_cell? _ _ (hcs 0 hpos), hcs⟩
  clear hI
  refine (callsIn_wide (n := 4)).1 ?_
  refine callsIn_of_wp_marks Tryd.func102 rfl trivial ?_ rfl
  simp only [Tryd.ntmps102, List.size_toArray, List.length_cons, List.length_nil, Nat.reduceAdd, Nat.reduceSub, Array.replicate_succ, Array.replicate_zero, List.push_toArray, List.append_toArray, List.nil_append, List.cons_append]
  gi_wp2
  have bO := Boxed.new w 22 (.slice none 0 0)
  have hB0 : Below w.heap.size w (w.alloc (.cells #[.slice none 0 0] 22)) := (Below.refl _ w).alloc (Nat.le_refl _) _
  refine wpIn_rangeFunc_ownG rfl (by omega) (gf := 101) (lb := #[.pointer (some ⟨Bs, 0, none⟩)]) rfl trivial (enters_of Tryd.func101 (by kernel_rfl) rfl)
    (values_stops Fence.wide 3 trivial rfl (by omega) Bs w.heap.size cap a zs hl (w.alloc (.cells #[.slice none 0 0] 22)) (by simp; omega) (by simp) ((hB0.cell (p := ⟨Bs, 0, none⟩) hBs).trans hc) (fun hz => by
      obtain ⟨b, off, ha, hb, hcs⟩ := hIb hz
      exact ⟨b, off, ha, hb, fun j hj => (hB0.cell (p := ⟨b, off + j, none⟩) hb).trans (hcs j hj)⟩)) belowK_t (belowK_b (by simp)) (Below.refl _ _) (fun _ => rfl)
    (fun (pre : List Int) W => (∃ v, Boxed W w.heap.size 22 v ∧ W.ownsRow w.heap.size 2 1 v pre.length (pre.map (Value.int .i64)) ∧ True) ∧ Below w.heap.size w W)
    (fun _ _ _ => False)
    (OwnFrom.and (Own.from (holdsRow_own w.heap.size w.heap.size 22 2 1 (fun pre : List Int => pre.length) (fun pre : List Int => pre.map (Value.int .i64)) (fun _ _ => True)) _) (ownFrom_below (Nat.le_refl _) (by simp)))
    (fun _ _ _ _ _ hs _ _ => hs)
    ⟨⟨_, bO, World.ownsRow_nil _ _ _ _, trivial⟩, hB0⟩
    (fun x => { tmps := #[.slice none 0 0, .func (.func 101) #[] #[.pointer (some ⟨Bs, 0, none⟩)], .pointer (some ⟨w.heap.size, 0, none⟩), undef, .slice none 0 0, .int .i64 x, .func (.func 101) #[] #[.pointer (some ⟨Bs, 0, none⟩)], .int .i64 x, undef, undef, undef, undef, undef], defers := [] }) ?assign ?body ?done ?stop
  case assign =>
    intro l x W K hK
    gi_wp2
    exact hK
  case body =>
    rintro l pre x W ⟨⟨v, hv, hrow, _⟩, hB⟩ hlt
    have hc := hv.cell
    gi_wp2_with (gi_at_builtin; refine wpListIn_append_own _ rfl _ _ 22 rfl w.heap.size 2 i0 (.int .i64 0) 1 8 Tryd.underlying22 hi hz0 hz1 hz2 rfl (by decide) _ _ _ rfl (hrow.alloc _) ⟨W.heap.size, 0, none⟩ 1 1 [.int .i64 x] rfl rfl (cell_one_new _ _ _) (by simp [Value.oneCell']) (by unfold maxLen; omega) (by omega) (by have := hB.size; simp; omega) ?_; intro v' w1 hown' hgrow _; obtain ⟨g', cap', rfl⟩ := ownsRow_succ hown'; obtain ⟨hv1, hv2, hr2, hk2, hb2⟩ := Boxed.appended hv (by decide) hrow hB.size (Nat.le_refl _) hown' hgrow; have hc1 := hv1.cell; have hf1 := hv1.frozen)
    exact ⟨hk2.from _, hb2, ⟨_, hv2, by simpa using hr2, trivial⟩, hB.trans hb2⟩
  case done =>
    rintro D ys W hD rfl ⟨⟨v, hv, hrow, _⟩, hB⟩ hK
    have hc := hv.cell
    gi_wp2
    refine ⟨by simp, .inl ⟨_, _, rfl, run_takeDeferred hK, ?_⟩⟩
    exact ⟨_, results_tmp rfl _ _ _, v, rfl, ownsRow_putObj hrow _ hK rfl, hB.trans (belowK_b (w := w) (Nat.le_refl _) W D _ _ (by simp at hD; omega) hK rfl rfl)⟩
  case stop =>
    rintro D c pre W _ _ h _
    exact h.elim

set_option maxHeartbeats 1000000 in
theorem Collect_is {w : World} {a : Option Addr} {zs : List Int} (cap Bs : Nat) (hBs : Bs < w.heap.size) (hc : w.cell? ⟨Bs, 0, none⟩ = some (.slice a zs.length cap)) (hI : IntsAt w a zs) (hl : zs.length ≤ 1048576) :
    Calls Tryd.prog 99 #[.func (.func 101) #[] #[.pointer (some ⟨Bs, 0, none⟩)]] w fun e W' => ∃ v, e = .returned v ∧ W'.ownsRow w.heap.size 2 1 v zs.length (zs.map (Value.int .i64)) ∧ Below w.heap.size w W' := by
  have HC := Lib.hid (AppendSeq_is cap Bs hBs hc hI hl)
  clear hBs hc hI hl
  go_enter Tryd.func99, Tryd.ntmps99
  go_wp2_with fail
  refine HC.out.mono ?_
  rintro e w1 ⟨v, rfl, hv, hb⟩
  have HV := Lib.hid (And.intro hv hb)
  clear hv hb
  go_wp2
  go_ret
  exact ⟨_, rfl, HV.out.1, HV.out.2⟩

set_option maxHeartbeats 1000000 in
theorem Sorted_is {w : World} {a : Option Addr} {zs : List Int} (cap Bs : Nat) (hBs : Bs < w.heap.size) (hc : w.cell? ⟨Bs, 0, none⟩ = some (.slice a zs.length cap)) (hI : IntsAt w a zs) (hl : zs.length ≤ 1048576) :
    Calls Tryd.prog 95 #[.func (.func 101) #[] #[.pointer (some ⟨Bs, 0, none⟩)]] w fun e W' => ∃ v, e = .returned v ∧ W'.ownsRow w.heap.size 2 1 v zs.length ((zs.mergeSort fun x y => decide (x ≤ y)).map (Value.int .i64)) ∧ Below w.heap.size w W' := by
  have HC := Lib.hid (Collect_is cap Bs hBs hc hI hl)
  have HL := Lib.hid hl
  clear hBs hc hI hl
  go_enter Tryd.func95, Tryd.ntmps95
  go_wp2_with fail
  refine HC.out.mono ?_
  rintro e w1 ⟨v, rfl, hv, hb⟩
  have HV := Lib.hid (And.intro hv hb)
  clear hv hb
  go_wp2_with fail
  refine (sort_own HV.out.1 HL.out).mono ?_
  rintro e w2 ⟨rfl, hs, ho⟩
  have HS := Lib.hid hs
  have HB := Lib.hid (HV.out.2.trans (ho.below (B := w.heap.size) HV.out.2.size (fun b hb => (HV.out.1.lt b hb).1)))
  clear hs ho
  go_wp2
  go_ret
  exact ⟨_, rfl, HS.out, HB.out⟩

theorem compactI_own {w : World} {B : Nat} {v : Value} {zs : List Int} (h : w.ownsRow B 2 1 v zs.length (zs.map (Value.int .i64))) (hl : zs.length ≤ 1048576) :
    Calls Tryd.prog 94 #[v] w fun e w' => ∃ u, e = .returned u ∧ w'.ownsRow B 2 1 u (compL zs).length ((compL zs).map (Value.int .i64)) ∧ Only (fun b => v.ownBlock = some b) w w' := by
  rcases h.2 with ⟨hv, h0⟩ | ⟨g, cap, cur, hv, hg, hb, hc, hm, hcs, ht⟩
  · have hz : zs = [] := List.length_eq_zero_iff.1 h0
    subst hz
    subst hv
    go_enter Tryd.func94, Tryd.ntmps94
    go_wp2
    go_ret
    exact ⟨_, rfl, World.ownsRow_nil _ _ _ _, Only.refl _ _⟩
  · subst hv
    have hcl := comp_len zs
    have hH : Holds (Value.int .i64) w g 0 zs.toArray := holds_of_blockI hb (by simpa using ht)
    refine (AnyE.slices_Compact compactInts (Value.int .i64) (fun _ => rfl) (EqlAt.intD _ _ .i64) (NeqAt.intD _ _ .i64) 0 Tryd.zeroValue2 g 0 cap zs.toArray w hH (by simp; omega) (by simpa using hc)).mono ?_
    rintro e w' ⟨rfl, q, rfl⟩
    have hsz : zs.toArray.size = zs.length := by simp
    rw [hsz]
    refine ⟨_, rfl, ?_, ?_⟩
    · have hk := Go.Lib.ownsRow_putRow (enc := Value.int .i64) (q := q) (k := (compL zs).length) (ys := compL zs ++ List.replicate (zs.length - (compL zs).length) 0) h (by simp; omega) hcl
      rw [List.take_left'  rfl] at hk
      exact hk
    · refine ⟨rfl, rfl, rfl, by simp [putRow, mapBlock, Sort.ahead], fun k hk hne => ?_⟩
      have : g ≠ k := fun e => hne (by simp [Value.ownBlock, e])
      simp [putRow, mapBlock, Sort.ahead, Array.getElem?_modify, this]

/-- The different numbers, in ascending order. -/
def distL (zs : List Int) : List Int := compL (zs.mergeSort fun x y => decide (x ≤ y))
theorem distL_spec (zs : List Int) : (distL zs).Pairwise (· < ·) ∧ ∀ x, x ∈ distL zs ↔ x ∈ zs := by
  obtain ⟨m, hm⟩ : ∃ m, zs.mergeSort (fun x y => decide (x ≤ y)) = m := ⟨_, rfl⟩
  have hp := List.pairwise_mergeSort (le := fun x y : Int => decide (x ≤ y)) (fun a b c h1 h2 => by simp at *; omega) (fun a b => by simp; omega) zs
  unfold distL
  rw [hm] at hp ⊢
  have hs : ∀ i j, i ≤ j → j < m.length → nth m i ≤ nth m j := fun i j hij hj => by
    by_cases e : i = j
    · subst e; omega
    · have := List.pairwise_iff_getElem.1 hp i j (by omega) hj (by omega)
      rw [nth_eq (by omega), nth_eq hj]; simpa using this
  obtain ⟨h1, h2⟩ := comp_spec hs m.length (Nat.le_refl _)
  refine ⟨h1, fun x => ?_⟩
  unfold compL
  rw [h2 x, ← mem_nth, ← hm, List.mem_mergeSort]
theorem distL_len (zs : List Int) : (distL zs).length ≤ zs.length := by
  have := comp_len (zs.mergeSort fun x y => decide (x ≤ y))
  rw [List.length_mergeSort] at this
  exact this

set_option maxHeartbeats 1000000 in
theorem distinct_is {w : World} {a : Option Addr} {zs r : List Int} (cap : Nat) (hr : distL zs = r) (h : IntsAt w a zs) (hl : zs.length ≤ 1048576) :
    Calls Tryd.prog 82 #[.slice a zs.length cap] w (GivesInts w r) := by
  have HF := Lib.hid h.fits
  have HL := Lib.hid hl
  have B1 := Lib.hid (below1 w (.cells #[.slice a zs.length cap] 22))
  have HS := Lib.hid (Sorted_is (w := w.alloc (.cells #[.slice a zs.length cap] 22)) cap w.heap.size (by simp) (Boxed.new w 22 (.slice a zs.length cap)).cell (h.alloc _) hl)
  have HV := Lib.hid (Values_is a zs.length cap w)
  have HR := Lib.hid hr
  clear h hl hr
  go_enter Tryd.func82, Tryd.ntmps82
  go_wp2_with fail
  refine HV.out.mono ?_
  rintro e w1 ⟨rfl, rfl⟩
  go_wp2_with fail
  refine HS.out.mono ?_
  rintro e w2 ⟨v, rfl, hv, hb⟩
  have hlen : zs.length = (zs.mergeSort fun x y => decide (x ≤ y)).length := (List.length_mergeSort _).symm
  have hv2 := ownsRow_base hv (B' := w.heap.size) B1.out.size
  clear hv
  rw [hlen] at hv2
  have H2 := Lib.hid hv2
  have B2 := Lib.hid (B1.out.trans (hb.mono B1.out.size))
  have HL2 : Hid ((zs.mergeSort fun x y => decide (x ≤ y)).length ≤ 1048576) := by rw [← hlen]; exact HL.out
  clear hv2 hb hlen
  go_wp2_with fail
  refine (compactI_own H2.out HL2.out).mono ?_
  rintro e w3 ⟨u, rfl, hu, ho⟩
  have HU := Lib.hid hu
  have B3 := Lib.hid (B2.out.trans (ho.below (B := w.heap.size) B2.out.size (fun b hb => (H2.out.lt b hb).1)))
  clear hu ho
  go_wp2
  go_ret
  refine ⟨_, rfl, ?_, B3.out⟩
  rw [← HR.out]
  refine OwnInts.mk' HU.out ?_ fun k hk => ?_
  · have h1 := distL_len zs
    have h2 := HL.out
    rw [distL] at h1 ⊢
    omega
  · obtain ⟨j, hj, e⟩ := mem_nth.1 (((distL_spec zs).2 _).1 (nth_mem hk))
    rw [← e]; exact HF.out j hj
end

end Go.Proofs.YtihaajcmephlmaaDoor
namespace Go.Proofs.YtihaajcmephlmaaDoor
section

/-- A small game. -/
noncomputable def smallB (O : List Int) (zss : List (List Int)) (P : List Int) : Bool := decide (P.length ≤ 12) && parityB O zss P
theorem smallB_iff {O : List Int} {zss : List (List Int)} {P : List Int} : smallB O zss P = true ↔ P.length ≤ 12 ∧ parityB O zss P = true := by
  unfold smallB
  rw [Bool.and_eq_true, decide_eq_true_eq]
theorem smallB_own {O : List Int} {zss : List (List Int)} {P : List Int} : smallB O zss P = (decide (O.length ≤ 12) && parityB O zss P) := by
  unfold smallB
  cases h : parityB O zss P with
  | false => simp
  | true => rw [(parityB_iff.1 h).2.1]

/-- The odd priorities from 39 on downwards, k of them looked at. -/
def downL (P : List Int) (k : Nat) : List Int := ((List.range k).map fun i : Nat => 39 - 2 * (i : Int)).filter fun p => hasB P p
theorem downL_yes {P : List Int} {k : Nat} (h : hasB P (39 - 2 * (k : Int)) = true) : downL P (k + 1) = downL P k ++ [39 - 2 * (k : Int)] := by
  unfold downL
  rw [List.range_succ, List.map_append, List.filter_append]
  simp [h]
theorem downL_no {P : List Int} {k : Nat} (h : hasB P (39 - 2 * (k : Int)) = false) : downL P (k + 1) = downL P k := by
  unfold downL
  rw [List.range_succ, List.map_append, List.filter_append]
  simp [h]
theorem downL_len (P : List Int) (k : Nat) : (downL P k).length ≤ k := by
  unfold downL
  refine Nat.le_trans (List.length_filter_le _ _) ?_
  simp
/-- The odds of a game, falling. -/
def oddsL (P : List Int) : List Int := downL P 20
theorem odds_mem {P : List Int} {p : Int} : p ∈ oddsL P ↔ p ∈ P ∧ p % 2 = 1 ∧ 0 < p ∧ p ≤ 39 := by
  unfold oddsL downL
  rw [List.mem_filter, List.mem_map, hasB_iff]
  constructor
  · rintro ⟨⟨i, hi, rfl⟩, h⟩
    have := List.mem_range.1 hi
    exact ⟨h, by omega, by omega, by omega⟩
  · rintro ⟨h, h2, h3, h4⟩
    exact ⟨⟨((39 - p) / 2).toNat, List.mem_range.2 (by omega), by omega⟩, h⟩
theorem odds_down (P : List Int) : (oddsL P).Pairwise (· > ·) := by
  unfold oddsL downL
  refine List.Pairwise.sublist List.filter_sublist ?_
  rw [List.pairwise_map]
  refine List.pairwise_lt_range.imp ?_
  intro a b h
  show (39 : Int) - 2 * a > 39 - 2 * b
  omega
theorem falls_eq {a b : List Int} (ha : a.Pairwise (· > ·)) (hb : b.Pairwise (· > ·)) (h : ∀ x, x ∈ a ↔ x ∈ b) : a = b := by
  refine List.Perm.eq_of_pairwise (le := fun x y => x ≥ y) (fun x y _ _ h1 h2 => Int.le_antisymm h2 h1) (ha.imp fun h => Int.le_of_lt h) (hb.imp fun h => Int.le_of_lt h) ?_
  exact (List.perm_ext_iff_of_nodup (ha.imp fun h => Int.ne_of_gt h) (hb.imp fun h => Int.ne_of_gt h)).2 h
theorem odds_eq {P : List Int} (h : ∀ x ∈ P, 0 ≤ x ∧ x ≤ 40) : ((distL P).filter fun p => !decide (p.tmod 2 = 0)).reverse = oddsL P := by
  refine falls_eq ?_ (odds_down P) fun x => ?_
  · rw [List.pairwise_reverse]
    exact (distL_spec P).1.sublist List.filter_sublist
  · rw [List.mem_reverse, List.mem_filter, (distL_spec P).2, odds_mem]
    constructor
    · rintro ⟨h1, h2⟩
      have := h x h1
      have h3 : ¬ x.tmod 2 = 0 := by simpa using h2
      rw [Int.tmod_eq_emod_of_nonneg this.1] at h3
      exact ⟨h1, by omega, by omega, by omega⟩
    · rintro ⟨h1, h2, h3, h4⟩
      refine ⟨h1, ?_⟩
      have : ¬ x.tmod 2 = 0 := by rw [Int.tmod_eq_emod_of_nonneg (by omega)]; omega
      simpa using this
theorem odds_len {P : List Int} (h : ∀ x ∈ P, 0 ≤ x ∧ x ≤ 40) : (oddsL P).length ≤ P.length := by
  rw [← odds_eq h, List.length_reverse]
  exact Nat.le_trans (List.length_filter_le _ _) (distL_len P)
end
end Go.Proofs.YtihaajcmephlmaaDoor
namespace Go.Proofs.YtihaajcmephlmaaDoor
section

/-- How many of the first k vertices have a priority. -/
def manyK (P : List Int) (p : Int) (k : Nat) : Int := (((P.take k).filter fun x => decide (x = p)).length : Int)
theorem manyK_zero (P : List Int) (p : Int) : manyK P p 0 = 0 := rfl
theorem manyK_succ {P : List Int} {p : Int} {k : Nat} (hk : k < P.length) : manyK P p (k + 1) = manyK P p k + (if nth P k = p then 1 else 0) := by
  unfold manyK
  rw [take_next hk, List.filter_append, List.length_append]
  by_cases h : nth P k = p
  · rw [if_pos h]; simp [h]
  · rw [if_neg h]; simp [h]
theorem manyK_le (P : List Int) (p : Int) (k : Nat) : 0 ≤ manyK P p k ∧ manyK P p k ≤ k ∧ manyK P p k ≤ P.length := by
  unfold manyK
  have h1 : ((P.take k).filter fun x => decide (x = p)).length ≤ (P.take k).length := List.length_filter_le _ _
  have h2 : (P.take k).length ≤ k := by simp; omega
  have h3 : (P.take k).length ≤ P.length := by simp; omega
  omega
/-- How many vertices have a priority. -/
def manyL (P : List Int) (p : Int) : Int := manyK P p P.length

/-- The greatest numbers by place, over the first k vertices. -/
def mostK (P : List Int) (k : Nat) : List Int := 0 :: (oddsL P).map fun p => manyK P p k
def mostL (P : List Int) : List Int := mostK P P.length
theorem mostK_len (P : List Int) (k : Nat) : (mostK P k).length = (oddsL P).length + 1 := by unfold mostK; simp
theorem mostK_at {P : List Int} {k i : Nat} (hi : i < (oddsL P).length) : nth (mostK P k) (i + 1) = manyK P (nth (oddsL P) i) k := by
  unfold mostK nth
  simp [hi]
theorem mostK_top {P : List Int} {k : Nat} : nth (mostK P k) 0 = 0 := rfl
theorem mostK_off {P : List Int} {k i : Nat} (hi : (oddsL P).length < i) : nth (mostK P k) i = 0 := by
  have h := mostK_len P k
  unfold nth
  rw [List.getD_eq_getElem?_getD, List.getElem?_eq_none (by omega)]
  rfl
theorem mostK_start (P : List Int) (i : Nat) : nth (mostK P 0) i = 0 := by
  by_cases h : (oddsL P).length < i
  · exact mostK_off h
  · cases i with
    | zero => rfl
    | succ i => rw [mostK_at (by omega)]; exact manyK_zero _ _
theorem odds_inj {P : List Int} {i j : Nat} (hi : i < (oddsL P).length) (hj : j < (oddsL P).length) (h : nth (oddsL P) i = nth (oddsL P) j) : i = j := by
  have hp := List.pairwise_iff_getElem.1 (odds_down P)
  rw [nth_eq hi, nth_eq hj] at h
  rcases Nat.lt_trichotomy i j with h1 | h1 | h1
  · have := hp i j hi hj h1; omega
  · exact h1
  · have := hp j i hj hi h1; omega
theorem mostK_hit {P : List Int} {k i : Nat} (hk : k < P.length) (hi : i < (oddsL P).length) (h : nth (oddsL P) i = nth P k) (j : Nat) : nth (mostK P (k + 1)) j = if j = i + 1 then nth (mostK P k) j + 1 else nth (mostK P k) j := by
  by_cases h1 : (oddsL P).length < j
  · rw [mostK_off h1, mostK_off h1, if_neg (by omega)]
  · cases j with
    | zero => rw [if_neg (by omega)]; rfl
    | succ j =>
      rw [mostK_at (by omega), mostK_at (by omega), manyK_succ hk]
      by_cases e : j = i
      · subst e
        rw [if_pos h.symm, if_pos rfl]
      · rw [if_neg (fun h2 => e (odds_inj (by omega) hi (by rw [h, h2]))), if_neg (by omega)]
        omega
theorem mostK_miss {P : List Int} {k : Nat} (hk : k < P.length) (h : nth P k ∉ oddsL P) (j : Nat) : nth (mostK P (k + 1)) j = nth (mostK P k) j := by
  by_cases h1 : (oddsL P).length < j
  · rw [mostK_off h1, mostK_off h1]
  · cases j with
    | zero => rfl
    | succ j =>
      rw [mostK_at (by omega), mostK_at (by omega), manyK_succ hk, if_neg (fun h2 => h (by rw [h2]; exact nth_mem (by omega)))]
      omega
theorem mostK_le (P : List Int) (k i : Nat) : 0 ≤ nth (mostK P k) i ∧ nth (mostK P k) i ≤ k := by
  by_cases h1 : (oddsL P).length < i
  · rw [mostK_off h1]; omega
  · cases i with
    | zero => rw [mostK_top]; omega
    | succ i => rw [mostK_at (by omega)]; have := manyK_le P (nth (oddsL P) i) k; omega

/-- Are the first k numbers of a list from 0 to the greatest ones? -/
def withinB (P m : List Int) (k : Nat) : Bool := (List.range k).all fun i => decide (0 ≤ nth m i ∧ nth m i ≤ nth (mostL P) i)
theorem withinB_iff {P m : List Int} {k : Nat} : withinB P m k = true ↔ ∀ i, i < k → 0 ≤ nth m i ∧ nth m i ≤ nth (mostL P) i := by
  unfold withinB
  rw [List.all_eq_true]
  constructor
  · intro h i hi
    exact of_decide_eq_true (h i (List.mem_range.2 hi))
  · intro h i hi
    exact decide_eq_true (h i (List.mem_range.1 hi))
/-- Is a list a measure? -/
def goodB (P m : List Int) : Bool := decide (m = [1]) || (decide (m.length = (oddsL P).length + 1) && withinB P m m.length)
theorem goodB_iff {P m : List Int} : goodB P m = true ↔ m = [1] ∨ (m.length = (oddsL P).length + 1 ∧ ∀ i, i < m.length → 0 ≤ nth m i ∧ nth m i ≤ nth (mostL P) i) := by
  unfold goodB
  rw [Bool.or_eq_true, Bool.and_eq_true, decide_eq_true_eq, decide_eq_true_eq, withinB_iff]
theorem inB_iff {x lo hi : Int} : inB x lo hi = true ↔ lo ≤ x ∧ x ≤ hi := by unfold inB; rw [decide_eq_true_eq]
theorem one_iff {m : List Int} : m = [1] ↔ m.length = 1 ∧ nth m 0 = 1 := by
  constructor
  · rintro rfl; exact ⟨rfl, rfl⟩
  · rintro ⟨h1, h2⟩
    obtain ⟨x, rfl⟩ := List.length_eq_one_iff.1 h1
    have : x = 1 := h2
    rw [this]
end
end Go.Proofs.YtihaajcmephlmaaDoor
namespace Go.Proofs.YtihaajcmephlmaaDoor
open Go.RowKit

end Go.Proofs.YtihaajcmephlmaaDoor
