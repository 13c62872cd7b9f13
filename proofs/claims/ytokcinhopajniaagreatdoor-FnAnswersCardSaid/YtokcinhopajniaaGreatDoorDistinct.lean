/-
  Contracts: slices.Min and slices.Max over a slice of numbers that is not empty.
-/
import Derived.Test.YtokcinhopajniaaGreatDoorBase1
import Derived.Shelf.SlGeneric
import Derived.Shelf.SlicesE.Compact
import Derived.Ground.SlgnProg
import Derived.Test.YtokcinhopajniaaGreatDoorProg
import Derived.RangeFuncBox
import Derived.RangeFuncLeaves
import Derived.RangeFuncBound
import Derived.Shelf.Abstract
import Derived.WalkKit
import Derived.OwnWalkIn
import Derived.TacticsInMore
import Derived.LoopNIn
import Derived.LoopIn
import Derived.Maps.AppendAt
import Derived.Lib.OwnBridge
import Derived.Test.YtokcinhopajniaaGreatDoorCat1
import Derived.Test.YtokcinhopajniaaGreatDoorParity1
namespace Go.Proofs.YtokcinhopajniaaGreatDoor
section
open Go.RowKit

/-- The greatest of the first k + 1. -/
def maxN (zs : List Int) : Nat → Int
  | 0 => nth zs 0
  | k + 1 => if maxN zs k < nth zs (k + 1) then nth zs (k + 1) else maxN zs k
/-- The least of the first k + 1. -/
def minN (zs : List Int) : Nat → Int
  | 0 => nth zs 0
  | k + 1 => if nth zs (k + 1) < minN zs k then nth zs (k + 1) else minN zs k
theorem maxN_ge {zs : List Int} : ∀ {k j : Nat}, j ≤ k → nth zs j ≤ maxN zs k
  | 0, j, h => by have : j = 0 := by omega
                  subst this; exact Int.le_refl _
  | k + 1, j, h => by
    rw [maxN]
    by_cases e : j = k + 1
    · subst e; split <;> omega
    · have := maxN_ge (zs := zs) (k := k) (j := j) (by omega); split <;> omega
theorem maxN_at {zs : List Int} : ∀ k, ∃ j, j ≤ k ∧ nth zs j = maxN zs k
  | 0 => ⟨0, Nat.le_refl _, rfl⟩
  | k + 1 => by
    rw [maxN]
    obtain ⟨j, hj, e⟩ := maxN_at (zs := zs) k
    by_cases h : maxN zs k ≤ nth zs (k + 1)
    · exact ⟨k + 1, Nat.le_refl _, by split <;> omega⟩
    · exact ⟨j, by omega, by split <;> omega⟩
theorem minN_le {zs : List Int} : ∀ {k j : Nat}, j ≤ k → minN zs k ≤ nth zs j
  | 0, j, h => by have : j = 0 := by omega
                  subst this; exact Int.le_refl _
  | k + 1, j, h => by
    rw [minN]
    by_cases e : j = k + 1
    · subst e; split <;> omega
    · have := minN_le (zs := zs) (k := k) (j := j) (by omega); split <;> omega
theorem minN_at {zs : List Int} : ∀ k, ∃ j, j ≤ k ∧ nth zs j = minN zs k
  | 0 => ⟨0, Nat.le_refl _, rfl⟩
  | k + 1 => by
    rw [minN]
    obtain ⟨j, hj, e⟩ := minN_at (zs := zs) k
    by_cases h : nth zs (k + 1) ≤ minN zs k
    · exact ⟨k + 1, Nat.le_refl _, by split <;> omega⟩
    · exact ⟨j, by omega, by split <;> omega⟩

set_option maxHeartbeats 2000000 in
set_option maxRecDepth 100000 in
theorem Max_is {w : World} {a : Option Addr} {zs : List Int} {m : Int} (cap : Nat) (hm : maxN zs (zs.length - 1) = m) (h : IntsAt w a zs) (hz : 0 < zs.length) :
    Calls Tryz.prog 130 #[.slice a zs.length cap] w fun e w' => e = .returned (.int .i64 m) ∧ w = w' := by
  have hlen := h.len
  obtain ⟨b, off, ha, hc⟩ := h.cell hz
  subst ha
  have h0 := hc 0 hz
  rw [Nat.add_zero] at h0
  have HC := Lib.hid hc
  have HM := Lib.hid hm
  obtain ⟨n, hn⟩ : ∃ n, n = zs.length := ⟨_, rfl⟩
  rw [← hn] at hlen hz ⊢
  have HN := Lib.hid hn
  have h1 : ¬ (n : Int) < 1 := by omega
  have h2 : (0 : Int) < n := by omega
  clear hc hm h hn
  go_enter Tryz.func130, Tryz.ntmps130
  go_wp2
  go_loopw [3, 4] (fun mv iv wr => ∃ k : Nat, k + 1 ≤ n ∧ iv = .int .i64 ((k : Int) + 1) ∧ mv = .int .i64 (maxN zs k) ∧ wr = w) (fun _ iv _ => n + 1 - (intOf iv).toNat)
  case atStart => exact ⟨0, by omega, rfl, rfl, rfl⟩
  case round =>
    obtain ⟨k, hk, rfl, rfl, rfl⟩ := hrel
    by_cases hlt : k + 1 < n
    · have hi1 : (k : Int) + 1 < n := by omega
      have hi0 : (0 : Int) ≤ (k : Int) + 1 := by omega
      have hw : IntKind.i64.wrap ((k : Int) + 1 + 1) = (k : Int) + 1 + 1 := IntWalk.i64_in _ (by omega)
      have ht : ((k : Int) + 1).toNat = k + 1 := by omega
      have c1 := HC.out (k + 1) (by have := HN.out; omega)
      have HS : Hid (maxN zs (k + 1) = if maxN zs k < nth zs (k + 1) then nth zs (k + 1) else maxN zs k) := rfl
      obtain ⟨q, hq⟩ : ∃ q, q = maxN zs k := ⟨_, rfl⟩
      obtain ⟨x, hx⟩ : ∃ x, x = nth zs (k + 1) := ⟨_, rfl⟩
      rw [← hq, ← hx] at HS
      rw [← hx] at c1
      rw [← hq]
      clear hq hx
      go_wp2
      go_roundw
      case rel => exact ⟨k + 1, by omega, by go_num, by rw [HS.out]; first | done | (congr 1; split <;> omega), by first | rfl | trivial⟩
      case measure => simp [intOf]; omega
    · have hi1 : ¬ (k : Int) + 1 < n := by omega
      have HE : Hid (maxN zs k = m) := by rw [← HM.out, show zs.length - 1 = k by have := HN.out; omega]; rfl
      go_wp2
      go_ret
      exact ⟨ret_i64 HE.out, rfl⟩

set_option maxHeartbeats 2000000 in
set_option maxRecDepth 100000 in
theorem Min_is {w : World} {a : Option Addr} {zs : List Int} {m : Int} (cap : Nat) (hm : minN zs (zs.length - 1) = m) (h : IntsAt w a zs) (hz : 0 < zs.length) :
    Calls Tryz.prog 129 #[.slice a zs.length cap] w fun e w' => e = .returned (.int .i64 m) ∧ w = w' := by
  have hlen := h.len
  obtain ⟨b, off, ha, hc⟩ := h.cell hz
  subst ha
  have h0 := hc 0 hz
  rw [Nat.add_zero] at h0
  have HC := Lib.hid hc
  have HM := Lib.hid hm
  obtain ⟨n, hn⟩ : ∃ n, n = zs.length := ⟨_, rfl⟩
  rw [← hn] at hlen hz ⊢
  have HN := Lib.hid hn
  have h1 : ¬ (n : Int) < 1 := by omega
  have h2 : (0 : Int) < n := by omega
  clear hc hm h hn
  go_enter Tryz.func129, Tryz.ntmps129
  go_wp2
  go_loopw [3, 4] (fun mv iv wr => ∃ k : Nat, k + 1 ≤ n ∧ iv = .int .i64 ((k : Int) + 1) ∧ mv = .int .i64 (minN zs k) ∧ wr = w) (fun _ iv _ => n + 1 - (intOf iv).toNat)
  case atStart => exact ⟨0, by omega, rfl, rfl, rfl⟩
  case round =>
    obtain ⟨k, hk, rfl, rfl, rfl⟩ := hrel
    by_cases hlt : k + 1 < n
    · have hi1 : (k : Int) + 1 < n := by omega
      have hi0 : (0 : Int) ≤ (k : Int) + 1 := by omega
      have hw : IntKind.i64.wrap ((k : Int) + 1 + 1) = (k : Int) + 1 + 1 := IntWalk.i64_in _ (by omega)
      have ht : ((k : Int) + 1).toNat = k + 1 := by omega
      have c1 := HC.out (k + 1) (by have := HN.out; omega)
      have HS : Hid (minN zs (k + 1) = if nth zs (k + 1) < minN zs k then nth zs (k + 1) else minN zs k) := rfl
      obtain ⟨q, hq⟩ : ∃ q, q = minN zs k := ⟨_, rfl⟩
      obtain ⟨x, hx⟩ : ∃ x, x = nth zs (k + 1) := ⟨_, rfl⟩
      rw [← hq, ← hx] at HS
      rw [← hx] at c1
      rw [← hq]
      clear hq hx
      go_wp2
      go_roundw
      case rel => exact ⟨k + 1, by omega, by go_num, by rw [HS.out]; first | done | (congr 1; split <;> omega), by first | rfl | trivial⟩
      case measure => simp [intOf]; omega
    · have hi1 : ¬ (k : Int) + 1 < n := by omega
      have HE : Hid (minN zs k = m) := by rw [← HM.out, show zs.length - 1 = k by have := HN.out; omega]; rfl
      go_wp2
      go_ret
      exact ⟨ret_i64 HE.out, rfl⟩
end

section
open Go.Shelf
def compactInts_ren : Go.Shelf.Ren := ⟨fun | 43 => 160 | n => n, fun | 22 => 27 | 23 => 2 | 3 => 3 | 4 => 4 | 0 => 0 | n => n, fun | n => n⟩
theorem compactInts : Go.Proofs.SlLaysE.n43 Tryz.prog compactInts_ren := {
  mixed := by kernel_rfl
  f43 := ⟨Tryz.f160.name, by decide, Tryz.func160.trans (congrArg some (by kernel_rfl))⟩
  t0 := Tryz.underlying0
  a0 := Tryz.isAgg0
  z0 := Tryz.sizeOf0
  v0 := Tryz.zeroValue0
  t3 := Tryz.underlying3
  a3 := Tryz.isAgg3
  z3 := Tryz.sizeOf3
  v3 := Tryz.zeroValue3
  t4 := Tryz.underlying4
  a4 := Tryz.isAgg4
  z4 := Tryz.sizeOf4
  v4 := Tryz.zeroValue4
  t22 := Tryz.underlying27
  a22 := Tryz.isAgg27
  z22 := Tryz.sizeOf27
  v22 := Tryz.zeroValue27
  a23 := Tryz.isAgg2
  z23 := Tryz.sizeOf2 }
end

section
open Go.RowKit Go.Shelf Go.Sort

attribute [local go_sem] Oper.semAt_some

theorem take_next {zs : List Int} {k : Nat} (h : k < zs.length) : zs.take (k + 1) = zs.take k ++ [nth zs k] := by
  rw [List.take_add_one, List.getElem?_eq_getElem h, nth_eq h]; rfl

set_option maxRecDepth 100000 in
set_option maxHeartbeats 2000000 in
/-- What slices.Values hands back, called with a loop's body. -/
theorem values1_in (F : Fence) (m : Nat) (hF : F.fn 191) (hro : F.round = none) (hm : 1 ≤ m) (l Bs n₀ b off cap : Nat) (zs : List Int) (hreach : zs.length ≤ 1048576) (hb : b < n₀) (J Jx : List Int → World → Prop)
    (hY : ∀ pre x W, J pre W → pre.length < zs.length → YieldAt F (m - 1) Tryz.prog l #[.int .i64 x] W fun e W' =>
      (e = .returned (.bool true) ∧ J (pre ++ [x]) W' ∧ Below n₀ W W') ∨ (e = .returned (.bool false) ∧ Jx (pre ++ [x]) W'))
    (W : World) (hBs : W.cell? ⟨Bs, 0, none⟩ = some (.slice (some ⟨b, off, none⟩) zs.length cap)) (hc : ∀ j, j < zs.length → W.cell? ⟨b, off + j, none⟩ = some (.int .i64 (nth zs j))) (h0 : J [] W) :
    CallsIn F m Tryz.prog 191 #[.func (.yield l) #[] #[], .pointer (some ⟨Bs, 0, none⟩)] W fun e W' => (∃ v, e = .returned v) ∧
      ((∃ ys, ys = zs ∧ J ys W') ∨ (∃ pre, (∃ k, k ≤ zs.length ∧ pre = zs.take k) ∧ Jx pre W')) := by
  refine callsIn_of_wp Tryz.func191 rfl hF ?_ hro
  simp only [Tryz.ntmps191, List.size_toArray, List.length_cons, List.length_nil, Nat.reduceAdd, Nat.reduceSub, Array.replicate_succ, Array.replicate_zero, List.push_toArray, List.append_toArray, List.nil_append, List.cons_append]
  gi_wp2
  gi_loopw [7] (fun i wr => ∃ k : Nat, k ≤ zs.length ∧ i = .int .i64 k ∧ J (zs.take k) wr ∧ Below n₀ W wr) (fun i _ => zs.length - (intOf i).toNat)
  case atStart => exact ⟨0, Nat.zero_le _, rfl, by simpa using h0, Below.refl _ _⟩
  case round =>
    obtain ⟨k, hk, rfl, hJs, hnx⟩ := hrel
    by_cases hlt : k < zs.length
    · have hcx : wr.cell? ⟨b, off + k, none⟩ = some (.int .i64 (nth zs k)) := (hnx.cell (p := ⟨b, off + k, none⟩) hb).trans (hc k hlt)
      have hY1 := hY _ (nth zs k) wr hJs (by rw [List.length_take]; omega)
      rw [← take_next hlt] at hY1
      obtain ⟨fn, tmps, assign, body, hy, hR⟩ := hY1
      gi_wp2
      refine hR.mono ?_
      rintro e W3 (⟨rfl, hJ3, hk3⟩ | ⟨rfl, hJx3⟩)
      · gi_wp2
        go_roundw
        case rel => exact ⟨k + 1, by omega, by go_num, hJ3, hnx.trans hk3⟩
        case measure => simp [intOf]; omega
      · gi_wp2
        refine bodyPost_ret (results_none rfl _ _ _) rfl ?_
        exact ⟨⟨_, rfl⟩, .inr ⟨_, ⟨k + 1, by omega, rfl⟩, hJx3⟩⟩
    · obtain rfl : k = zs.length := by omega
      gi_wp2
      go_end0
      exact ⟨⟨_, rfl⟩, .inl ⟨_, List.take_length, hJs⟩⟩

set_option maxRecDepth 100000 in
set_option maxHeartbeats 1000000 in
/-- .. at no numbers. -/
theorem values1_nil_in (F : Fence) (m : Nat) (hF : F.fn 191) (hro : F.round = none) (l Bs : Nat) (J : List Int → World → Prop) (W : World) (a : Option Addr) (cap : Nat) (hBs : W.cell? ⟨Bs, 0, none⟩ = some (.slice a 0 cap)) (h0 : J [] W) :
    CallsIn F m Tryz.prog 191 #[.func (.yield l) #[] #[], .pointer (some ⟨Bs, 0, none⟩)] W fun e W' => (∃ v, e = .returned v) ∧ J [] W' := by
  refine callsIn_of_wp Tryz.func191 rfl hF ?_ hro
  simp only [Tryz.ntmps191, List.size_toArray, List.length_cons, List.length_nil, Nat.reduceAdd, Nat.reduceSub, Array.replicate_succ, Array.replicate_zero, List.push_toArray, List.append_toArray, List.nil_append, List.cons_append]
  gi_wp2
  gi_loopw [7] (fun i wr => i = .int .i64 0 ∧ J [] wr) (fun _ _ => 0)
  case atStart => exact ⟨rfl, h0⟩
  case round =>
    obtain ⟨rfl, hJs⟩ := hrel
    gi_wp2
    go_end0
    exact ⟨⟨_, rfl⟩, hJs⟩

set_option maxHeartbeats 1000000 in
theorem Values_is (a : Option Addr) (len cap : Nat) (w : World) :
    Calls Tryz.prog 162 #[.slice a len cap] w fun e w' => e = .returned (.func (.func 191) #[] #[.pointer (some ⟨w.heap.size, 0, none⟩)]) ∧ w' = w.alloc (.cells #[.slice a len cap] 27) := by
  go_enter Tryz.func162, Tryz.ntmps162
  go_wp2
  go_ret
  exact ⟨rfl, rfl⟩

/-- What slices.Values hands back goes over the numbers, in order. -/
theorem values_stops (F : Fence) (m : Nat) (hF : F.fn 191) (hro : F.round = none) (hm : 1 ≤ m) (Bs n₀ cap : Nat) (a : Option Addr) (zs : List Int) (hreach : zs.length ≤ 1048576) (w : World) (hBs : Bs < w.heap.size) (hn₀ : n₀ ≤ w.heap.size)
    (hc : w.cell? ⟨Bs, 0, none⟩ = some (.slice a zs.length cap)) (hI : zs ≠ [] → ∃ b off, a = some ⟨b, off, none⟩ ∧ b < n₀ ∧ ∀ j, j < zs.length → w.cell? ⟨b, off + j, none⟩ = some (.int .i64 (nth zs j))) :
    SeqStopsK F m Tryz.prog 191 #[.pointer (some ⟨Bs, 0, none⟩)] (fun x : Int => #[Value.int .i64 x]) (Below n₀) (fun ys => ys = zs) (fun pre => ∃ k, k ≤ zs.length ∧ pre = zs.take k) zs.length w := fun l J Jx W hW _ _ hY h0 => by
  have hc' := (hW.cell (p := ⟨Bs, 0, none⟩) hBs).trans hc
  by_cases hz : zs = []
  · subst hz
    exact (values1_nil_in F m hF hro l Bs J W a cap hc' h0).mono fun e W' ⟨he, hj⟩ => ⟨he, .inl ⟨_, rfl, hj⟩⟩
  · obtain ⟨b, off, rfl, hb, hcs⟩ := hI hz
    exact values1_in F m hF hro hm l Bs n₀ b off cap zs hreach hb J Jx hY W hc' (fun j hj => (hW.cell (p := ⟨b, off + j, none⟩) (by show b < w.heap.size; omega)).trans (hcs j hj)) h0

set_option maxRecDepth 100000 in
set_option maxHeartbeats 2000000 in
theorem AppendSeq_is {w : World} {a : Option Addr} {zs : List Int} (cap Bs : Nat) (hBs : Bs < w.heap.size) (hc : w.cell? ⟨Bs, 0, none⟩ = some (.slice a zs.length cap)) (hI : IntsAt w a zs) (hl : zs.length ≤ 1048576) :
    Calls Tryz.prog 205 #[.slice none 0 0, .func (.func 191) #[] #[.pointer (some ⟨Bs, 0, none⟩)]] w fun e W' => ∃ v, e = .returned v ∧ W'.ownsRow w.heap.size 2 1 v zs.length (zs.map (Value.int .i64)) ∧ Below w.heap.size w W' := by
  obtain ⟨i0, hi, hz0, hz1, hz2⟩ := info_parts info_int
  have hIb : zs ≠ [] → ∃ b off, a = some ⟨b, off, none⟩ ∧ b < w.heap.size ∧ ∀ j, j < zs.length → w.cell? ⟨b, off + j, none⟩ = some (.int .i64 (nth zs j)) := fun hz => by
    have hpos : 0 < zs.length := List.length_pos_iff.2 hz
    obtain ⟨b, off, ha, hcs⟩ := hI.cell hpos
    exact ⟨b, off, ha, World.block_lt_of_cell? _ _ (hcs 0 hpos), hcs⟩
  clear hI
  refine (callsIn_wide (n := 4)).1 ?_
  refine callsIn_of_wp_marks Tryz.func205 rfl trivial ?_ rfl
  simp only [Tryz.ntmps205, List.size_toArray, List.length_cons, List.length_nil, Nat.reduceAdd, Nat.reduceSub, Array.replicate_succ, Array.replicate_zero, List.push_toArray, List.append_toArray, List.nil_append, List.cons_append]
  gi_wp2
  have bO := Boxed.new w 27 (.slice none 0 0)
  have hB0 : Below w.heap.size w (w.alloc (.cells #[.slice none 0 0] 27)) := (Below.refl _ w).alloc (Nat.le_refl _) _
  refine wpIn_rangeFunc_ownG rfl (by omega) (gf := 191) (lb := #[.pointer (some ⟨Bs, 0, none⟩)]) rfl trivial (enters_of Tryz.func191 (by kernel_rfl) rfl)
    (values_stops Fence.wide 3 trivial rfl (by omega) Bs w.heap.size cap a zs hl (w.alloc (.cells #[.slice none 0 0] 27)) (by simp; omega) (by simp) ((hB0.cell (p := ⟨Bs, 0, none⟩) hBs).trans hc) (fun hz => by
      obtain ⟨b, off, ha, hb, hcs⟩ := hIb hz
      exact ⟨b, off, ha, hb, fun j hj => (hB0.cell (p := ⟨b, off + j, none⟩) hb).trans (hcs j hj)⟩)) belowK_t (belowK_b (by simp)) (Below.refl _ _) (fun _ => rfl)
    (fun (pre : List Int) W => (∃ v, Boxed W w.heap.size 27 v ∧ W.ownsRow w.heap.size 2 1 v pre.length (pre.map (Value.int .i64)) ∧ True) ∧ Below w.heap.size w W)
    (fun _ _ _ => False)
    (OwnFrom.and (Own.from (holdsRow_own w.heap.size w.heap.size 27 2 1 (fun pre : List Int => pre.length) (fun pre : List Int => pre.map (Value.int .i64)) (fun _ _ => True)) _) (ownFrom_below (Nat.le_refl _) (by simp)))
    (fun _ _ _ _ _ hs _ _ => hs)
    ⟨⟨_, bO, World.ownsRow_nil _ _ _ _, trivial⟩, hB0⟩
    (fun x => { tmps := #[.slice none 0 0, .func (.func 191) #[] #[.pointer (some ⟨Bs, 0, none⟩)], .pointer (some ⟨w.heap.size, 0, none⟩), undef, .slice none 0 0, .int .i64 x, .func (.func 191) #[] #[.pointer (some ⟨Bs, 0, none⟩)], .int .i64 x, undef, undef, undef, undef, undef], defers := [] }) ?assign ?body ?done ?stop
  case assign =>
    intro l x W K hK
    gi_wp2
    exact hK
  case body =>
    rintro l pre x W ⟨⟨v, hv, hrow, _⟩, hB⟩ hlt
    have hc := hv.cell
    gi_wp2_with (gi_at_builtin; refine wpListIn_append_own _ rfl _ _ 27 rfl w.heap.size 2 i0 (.int .i64 0) 1 8 Tryz.underlying27 hi hz0 hz1 hz2 rfl (by decide) _ _ _ rfl (hrow.alloc _) ⟨W.heap.size, 0, none⟩ 1 1 [.int .i64 x] rfl rfl (cell_one_new _ _ _) (by simp [Value.oneCell']) (by unfold maxLen; omega) (by omega) (by have := hB.size; simp; omega) ?_; intro v' w1 hown' hgrow _; obtain ⟨g', cap', rfl⟩ := ownsRow_succ hown'; obtain ⟨hv1, hv2, hr2, hk2, hb2⟩ := Boxed.appended hv (by decide) hrow hB.size (Nat.le_refl _) hown' hgrow; have hc1 := hv1.cell; have hf1 := hv1.frozen)
    exact ⟨hk2.from _, hb2, ⟨_, hv2, by simpa using hr2, trivial⟩, hB.trans hb2⟩
  case done =>
    rintro D ys W hD rfl ⟨⟨v, hv, hrow, _⟩, hB⟩ hK
    have hc := hv.cell
    gi_wp2
    refine ⟨by simp, .inl ⟨_, _, rfl, run_takeDeferred hK, ?_⟩⟩
    exact ⟨_, results_tmp rfl _ _ _, v, rfl, ownsRow_putObj hrow _ hK rfl, hB.trans (belowK_b (w := w) (Nat.le_refl _) W D _ _ (by simp at hD; omega) hK rfl rfl)⟩
  case stop =>
    rintro D c pre W _ _ h _
    exact h.elim

set_option maxHeartbeats 1000000 in
theorem Collect_is {w : World} {a : Option Addr} {zs : List Int} (cap Bs : Nat) (hBs : Bs < w.heap.size) (hc : w.cell? ⟨Bs, 0, none⟩ = some (.slice a zs.length cap)) (hI : IntsAt w a zs) (hl : zs.length ≤ 1048576) :
    Calls Tryz.prog 190 #[.func (.func 191) #[] #[.pointer (some ⟨Bs, 0, none⟩)]] w fun e W' => ∃ v, e = .returned v ∧ W'.ownsRow w.heap.size 2 1 v zs.length (zs.map (Value.int .i64)) ∧ Below w.heap.size w W' := by
  have HC := Lib.hid (AppendSeq_is cap Bs hBs hc hI hl)
  clear hBs hc hI hl
  go_enter Tryz.func190, Tryz.ntmps190
  go_wp2_with fail
  refine HC.out.mono ?_
  rintro e w1 ⟨v, rfl, hv, hb⟩
  have HV := Lib.hid (And.intro hv hb)
  clear hv hb
  go_wp2
  go_ret
  exact ⟨_, rfl, HV.out.1, HV.out.2⟩

set_option maxHeartbeats 1000000 in
theorem Sorted_is {w : World} {a : Option Addr} {zs : List Int} (cap Bs : Nat) (hBs : Bs < w.heap.size) (hc : w.cell? ⟨Bs, 0, none⟩ = some (.slice a zs.length cap)) (hI : IntsAt w a zs) (hl : zs.length ≤ 1048576) :
    Calls Tryz.prog 161 #[.func (.func 191) #[] #[.pointer (some ⟨Bs, 0, none⟩)]] w fun e W' => ∃ v, e = .returned v ∧ W'.ownsRow w.heap.size 2 1 v zs.length ((zs.mergeSort fun x y => decide (x ≤ y)).map (Value.int .i64)) ∧ Below w.heap.size w W' := by
  have HC := Lib.hid (Collect_is cap Bs hBs hc hI hl)
  have HL := Lib.hid hl
  clear hBs hc hI hl
  go_enter Tryz.func161, Tryz.ntmps161
  go_wp2_with fail
  refine HC.out.mono ?_
  rintro e w1 ⟨v, rfl, hv, hb⟩
  have HV := Lib.hid (And.intro hv hb)
  clear hv hb
  go_wp2_with fail
  refine (sort_own HV.out.1 HL.out).mono ?_
  rintro e w2 ⟨rfl, hs, ho⟩
  have HS := Lib.hid hs
  have HB := Lib.hid (HV.out.2.trans (ho.below (B := w.heap.size) HV.out.2.size (fun b hb => (HV.out.1.lt b hb).1)))
  clear hs ho
  go_wp2
  go_ret
  exact ⟨_, rfl, HS.out, HB.out⟩

theorem compactI_own {w : World} {B : Nat} {v : Value} {zs : List Int} (h : w.ownsRow B 2 1 v zs.length (zs.map (Value.int .i64))) (hl : zs.length ≤ 1048576) :
    Calls Tryz.prog 160 #[v] w fun e w' => ∃ u, e = .returned u ∧ w'.ownsRow B 2 1 u (compL zs).length ((compL zs).map (Value.int .i64)) ∧ Only (fun b => v.ownBlock = some b) w w' := by
  rcases h.2 with ⟨hv, h0⟩ | ⟨g, cap, cur, hv, hg, hb, hc, hm, hcs, ht⟩
  · have hz : zs = [] := List.length_eq_zero_iff.1 h0
    subst hz
    subst hv
    go_enter Tryz.func160, Tryz.ntmps160
    go_wp2
    go_ret
    exact ⟨_, rfl, World.ownsRow_nil _ _ _ _, Only.refl _ _⟩
  · subst hv
    have hcl := comp_len zs
    have hH : Holds (Value.int .i64) w g 0 zs.toArray := holds_of_blockI hb (by simpa using ht)
    refine (AnyE.slices_Compact compactInts (Value.int .i64) (fun _ => rfl) (EqlAt.intD _ _ .i64) (NeqAt.intD _ _ .i64) 0 Tryz.zeroValue2 g 0 cap zs.toArray w hH (by simp; omega) (by simpa using hc)).mono ?_
    rintro e w' ⟨rfl, q, rfl⟩
    have hsz : zs.toArray.size = zs.length := by simp
    rw [hsz]
    refine ⟨_, rfl, ?_, ?_⟩
    · have hk := Go.Lib.ownsRow_putRow (enc := Value.int .i64) (q := q) (k := (compL zs).length) (ys := compL zs ++ List.replicate (zs.length - (compL zs).length) 0) h (by simp; omega) hcl
      rw [List.take_left'  rfl] at hk
      exact hk
    · refine ⟨rfl, rfl, rfl, by simp [putRow, mapBlock, Sort.ahead], fun k hk hne => ?_⟩
      have : g ≠ k := fun e => hne (by simp [Value.ownBlock, e])
      simp [putRow, mapBlock, Sort.ahead, Array.getElem?_modify, this]

/-- The different numbers, in ascending order. -/
def distL (zs : List Int) : List Int := compL (zs.mergeSort fun x y => decide (x ≤ y))
theorem distL_spec (zs : List Int) : (distL zs).Pairwise (· < ·) ∧ ∀ x, x ∈ distL zs ↔ x ∈ zs := by
  obtain ⟨m, hm⟩ : ∃ m, zs.mergeSort (fun x y => decide (x ≤ y)) = m := ⟨_, rfl⟩
  have hp := List.pairwise_mergeSort (le := fun x y : Int => decide (x ≤ y)) (fun a b c h1 h2 => by simp at *; omega) (fun a b => by simp; omega) zs
  unfold distL
  rw [hm] at hp ⊢
  have hs : ∀ i j, i ≤ j → j < m.length → nth m i ≤ nth m j := fun i j hij hj => by
    by_cases e : i = j
    · subst e; omega
    · have := List.pairwise_iff_getElem.1 hp i j (by omega) hj (by omega)
      rw [nth_eq (by omega), nth_eq hj]; simpa using this
  obtain ⟨h1, h2⟩ := comp_spec hs m.length (Nat.le_refl _)
  refine ⟨h1, fun x => ?_⟩
  unfold compL
  rw [h2 x, ← mem_nth, ← hm, List.mem_mergeSort]
theorem distL_len (zs : List Int) : (distL zs).length ≤ zs.length := by
  have := comp_len (zs.mergeSort fun x y => decide (x ≤ y))
  rw [List.length_mergeSort] at this
  exact this

set_option maxHeartbeats 1000000 in
theorem distinct_is {w : World} {a : Option Addr} {zs r : List Int} (cap : Nat) (hr : distL zs = r) (h : IntsAt w a zs) (hl : zs.length ≤ 1048576) :
    Calls Tryz.prog 132 #[.slice a zs.length cap] w (GivesInts w r) := by
  have HF := Lib.hid h.fits
  have HL := Lib.hid hl
  have B1 := Lib.hid (below1 w (.cells #[.slice a zs.length cap] 27))
  have HS := Lib.hid (Sorted_is (w := w.alloc (.cells #[.slice a zs.length cap] 27)) cap w.heap.size (by simp) (Boxed.new w 27 (.slice a zs.length cap)).cell (h.alloc _) hl)
  have HV := Lib.hid (Values_is a zs.length cap w)
  have HR := Lib.hid hr
  clear h hl hr
  go_enter Tryz.func132, Tryz.ntmps132
  go_wp2_with fail
  refine HV.out.mono ?_
  rintro e w1 ⟨rfl, rfl⟩
  go_wp2_with fail
  refine HS.out.mono ?_
  rintro e w2 ⟨v, rfl, hv, hb⟩
  have hlen : zs.length = (zs.mergeSort fun x y => decide (x ≤ y)).length := (List.length_mergeSort _).symm
  have hv2 := ownsRow_base hv (B' := w.heap.size) B1.out.size
  clear hv
  rw [hlen] at hv2
  have H2 := Lib.hid hv2
  have B2 := Lib.hid (B1.out.trans (hb.mono B1.out.size))
  have HL2 : Hid ((zs.mergeSort fun x y => decide (x ≤ y)).length ≤ 1048576) := by rw [← hlen]; exact HL.out
  clear hv2 hb hlen
  go_wp2_with fail
  refine (compactI_own H2.out HL2.out).mono ?_
  rintro e w3 ⟨u, rfl, hu, ho⟩
  have HU := Lib.hid hu
  have B3 := Lib.hid (B2.out.trans (ho.below (B := w.heap.size) B2.out.size (fun b hb => (H2.out.lt b hb).1)))
  clear hu ho
  go_wp2
  go_ret
  refine ⟨_, rfl, ?_, B3.out⟩
  rw [← HR.out]
  refine OwnInts.mk' HU.out ?_ fun k hk => ?_
  · have h1 := distL_len zs
    have h2 := HL.out
    rw [distL] at h1 ⊢
    omega
  · obtain ⟨j, hj, e⟩ := mem_nth.1 (((distL_spec zs).2 _).1 (nth_mem hk))
    rw [← e]; exact HF.out j hj
end

end Go.Proofs.YtokcinhopajniaaGreatDoor
