/-
  Contracts: slices.Backward over a set's slice, an iterator (a range over a function).
-/
import Derived.RangeFuncBox
import Derived.RangeFuncLeaves
import Derived.RangeFuncNested
import Derived.RangeFuncBound
import Derived.RangeFuncCalls
import Derived.Shelf.Abstract
import Derived.Shelf.RegionOpen
import Derived.WalkKit
import Derived.OwnWalkIn
import Derived.TacticsInMore
import Derived.LoopNIn
import Derived.LoopIn
import Derived.Test.YtokcinhopajniaaGreatDoorWalks1
import Derived.Shelf.SlGeneric
import Derived.Shelf.SlSortCmp.Whole1
import Derived.Shelf.SlSortCmp.NoneTotal
import Derived.Ground.SlsfProg
import Derived.Test.YtokcinhopajniaaGreatDoorProg
import Derived.Test.YtokcinhopajniaaGreatDoorKosa
import Derived.Test.YtokcinhopajniaaGreatDoorBase1
import Derived.Sort.OwnSortedInts
import Derived.Deep.RegionHeld3
import Derived.RangeFuncWrites
import Derived.Test.YtokcinhopajniaaGreatDoorReachImpl
import Derived.Test.YtokcinhopajniaaGreatDoorLoopsSpec
namespace Go.Proofs.YtokcinhopajniaaGreatDoor
section
open Go.RowKit Go.Shelf

attribute [local go_sem] Oper.semAt_some

/-- The pairs that slices.Backward hands on: the places from the last one down, and what stands there. -/
structure BackP {n : Nat} (ps : List (Nat × Fin n)) (zs : List Int) : Prop where
  len : ps.length = zs.length
  at_ : ∀ k (h : k < ps.length), (ps[k]).1 + 1 + k = zs.length ∧ (((ps[k]).2.val : Nat) : Int) = nth zs (ps[k]).1

/-- The blocks of T lie as they lay. -/
def Stay (T : Nat → Prop) (W W' : World) : Prop := ∀ k, T k → W'.heap[k]? = W.heap[k]?
theorem Stay.refl (T : Nat → Prop) (W : World) : Stay T W W := fun _ _ => rfl
theorem Stay.trans {T : Nat → Prop} {A B C : World} (h : Stay T A B) (k : Stay T B C) : Stay T A C := fun i hi => (k i hi).trans (h i hi)
theorem Stay.cell {T : Nat → Prop} {W W' : World} (h : Stay T W W') {p : Addr} (hp : T p.block) : W'.cell? p = W.cell? p := World.cell?_of_block (h _ hp)
theorem stayK_b {T : Nat → Prop} {w : World} (hT : ∀ k, T k → k < w.heap.size) (W : World) (l : Nat) (o o' : Obj) (hl : w.heap.size ≤ l) (_ : W.heap[l]? = some o) (_ : o.isCells = false) (_ : o.isWalk = false) : Stay T W (W.putObj l o') :=
  fun k hk => World.putObj_heap_other (by have := hT k hk; omega)

def encP {n : Nat} (x : Nat × Fin n) : Array Value := #[.int .i64 (x.1 : Int), .int .i64 ((x.2.val : Nat) : Int)]

set_option maxRecDepth 100000 in
set_option maxHeartbeats 2000000 in
theorem backward1_in (F : Fence) (m : Nat) (hF : F.fn 192) (hro : F.round = none) (hm : 1 ≤ m) (T : Nat → Prop) (l Bs b off cap n : Nat) (zs : List Int) (ps : List (Nat × Fin n)) (hP : BackP ps zs) (hreach : zs.length ≤ 256) (hb : T b) (J Jx : List (Nat × Fin n) → World → Prop)
    (hY : ∀ pre x W, J pre W → pre.length < zs.length → YieldAt F (m - 1) Tryz.prog l (encP x) W fun e W' =>
      (e = .returned (.bool true) ∧ J (pre ++ [x]) W' ∧ Stay T W W') ∨ (e = .returned (.bool false) ∧ Jx (pre ++ [x]) W'))
    (W : World) (hBs : W.cell? ⟨Bs, 0, none⟩ = some (.slice (some ⟨b, off, none⟩) zs.length cap)) (hc : ∀ j, j < zs.length → W.cell? ⟨b, off + j, none⟩ = some (.int .i64 (nth zs j))) (hBn : T Bs) (h0 : J [] W) :
    CallsIn F m Tryz.prog 192 #[.func (.yield l) #[] #[], .pointer (some ⟨Bs, 0, none⟩)] W fun e W' => (∃ v, e = .returned v) ∧
      ((∃ ys, ys = ps ∧ J ys W') ∨ (∃ pre, (∃ k, k ≤ zs.length ∧ pre = ps.take k) ∧ Jx pre W')) := by
  refine callsIn_of_wp Tryz.func192 rfl hF ?_ hro
  simp only [Tryz.ntmps192, List.size_toArray, List.length_cons, List.length_nil, Nat.reduceAdd, Nat.reduceSub, Array.replicate_succ, Array.replicate_zero, List.push_toArray, List.append_toArray, List.nil_append, List.cons_append]
  gi_wp2
  gi_loopw [3] (fun i wr => ∃ k q : Nat, k + q = zs.length ∧ i = .int .i64 ((q : Int) - 1) ∧ J (ps.take k) wr ∧ Stay T W wr)
    (fun i _ => (intOf i + 1).toNat)
  case atStart => exact ⟨0, zs.length, by omega, by go_num, by simpa using h0, Stay.refl _ _⟩
  case round =>
    obtain ⟨k, q, hk, rfl, hJs, hnx⟩ := hrel
    have hBr : wr.cell? ⟨Bs, 0, none⟩ = some (.slice (some ⟨b, off, none⟩) zs.length cap) := (hnx.cell (p := ⟨Bs, 0, none⟩) hBn).trans hBs
    cases q with
    | zero =>
      obtain rfl : k = zs.length := by omega
      rw [show ((0 : Nat) : Int) - 1 = -1 from rfl]
      gi_wp2
      go_end0
      exact ⟨⟨_, rfl⟩, .inl ⟨_, by rw [← hP.len, List.take_length], hJs⟩⟩
    | succ j =>
      rw [show (((j + 1 : Nat) : Int) - 1) = (j : Int) by omega]
      have hcx : wr.cell? ⟨b, off + j, none⟩ = some (.int .i64 (nth zs j)) := (hnx.cell (p := ⟨b, off + j, none⟩) hb).trans (hc j (by omega))
      have hkl : k < ps.length := by rw [hP.len]; omega
      obtain ⟨p1, p2⟩ := hP.at_ k hkl
      have e1 : (ps[k]).1 = j := by omega
      rw [e1] at p2
      have hY1 := hY _ (ps[k]) wr hJs (by rw [List.length_take]; omega)
      unfold encP at hY1
      rw [e1, p2] at hY1
      have htk : ps.take (k + 1) = ps.take k ++ [ps[k]] := by rw [List.take_add_one, List.getElem?_eq_getElem hkl]; rfl
      rw [← htk] at hY1
      have HT := Lib.hid htk
      clear p1 p2 e1 htk
      obtain ⟨fn, tmps, assign, body, hy, hR⟩ := hY1
      have hj : (j : Int) < zs.length := by omega
      gi_wp2
      refine hR.mono ?_
      rintro e W3 (⟨rfl, hJ3, hk3⟩ | ⟨rfl, hJx3⟩)
      · gi_wp2
        go_roundw
        case rel => exact ⟨k + 1, j, by omega, by first | rfl | go_num, hJ3, hnx.trans hk3⟩
        case measure => simp [intOf]
      · gi_wp2
        refine bodyPost_ret (results_none rfl _ _ _) rfl ?_
        exact ⟨⟨_, rfl⟩, .inr ⟨_, ⟨k + 1, by omega, rfl⟩, hJx3⟩⟩

set_option maxRecDepth 100000 in
set_option maxHeartbeats 1000000 in
theorem backward1_nil_in (F : Fence) (m : Nat) (hF : F.fn 192) (hro : F.round = none) (l Bs n : Nat) (J : List (Nat × Fin n) → World → Prop) (W : World) (a : Option Addr) (cap : Nat) (hBs : W.cell? ⟨Bs, 0, none⟩ = some (.slice a 0 cap)) (h0 : J [] W) :
    CallsIn F m Tryz.prog 192 #[.func (.yield l) #[] #[], .pointer (some ⟨Bs, 0, none⟩)] W fun e W' => (∃ v, e = .returned v) ∧ J [] W' := by
  refine callsIn_of_wp Tryz.func192 rfl hF ?_ hro
  simp only [Tryz.ntmps192, List.size_toArray, List.length_cons, List.length_nil, Nat.reduceAdd, Nat.reduceSub, Array.replicate_succ, Array.replicate_zero, List.push_toArray, List.append_toArray, List.nil_append, List.cons_append]
  gi_wp2
  gi_loopw [3] (fun i wr => i = .int .i64 (-1) ∧ J [] wr) (fun _ _ => 0)
  case atStart => exact ⟨by first | rfl | go_num, h0⟩
  case round =>
    obtain ⟨rfl, hJs⟩ := hrel
    gi_wp2
    go_end0
    exact ⟨⟨_, rfl⟩, hJs⟩

set_option maxHeartbeats 1000000 in
theorem backward_in (F : Fence) (m : Nat) (hF : F.fn 166) (hro : F.round = none) (a : Option Addr) (len cap : Nat) (w : World) :
    CallsIn F m Tryz.prog 166 #[.slice a len cap] w fun e w' => e = .returned (.func (.func 192) #[] #[.pointer (some ⟨w.heap.size, 0, none⟩)]) ∧ w' = w.alloc (.cells #[.slice a len cap] 27) := by
  refine callsIn_of_wp Tryz.func166 rfl hF ?_ hro
  simp only [Tryz.ntmps166, List.size_toArray, List.length_cons, List.length_nil, Nat.reduceAdd, Nat.reduceSub, Array.replicate_succ, Array.replicate_zero, List.push_toArray, List.append_toArray, List.nil_append, List.cons_append]
  gi_wp2
  go_ret
  exact ⟨rfl, rfl⟩

/-- What slices.Backward hands back goes over the pairs, from the last one down. -/
theorem backward_stops (F : Fence) (m : Nat) (hF : F.fn 192) (hro : F.round = none) (hm : 1 ≤ m) (T : Nat → Prop) (Bs n cap : Nat) (a : Option Addr) (zs : List Int) (ps : List (Nat × Fin n)) (hP : BackP ps zs) (hreach : zs.length ≤ 256) (w : World) (hBs : T Bs) (hBw : Bs < w.heap.size)
    (hc : w.cell? ⟨Bs, 0, none⟩ = some (.slice a zs.length cap)) (hI : zs ≠ [] → ∃ b off, a = some ⟨b, off, none⟩ ∧ T b ∧ b < w.heap.size ∧ ∀ j, j < zs.length → w.cell? ⟨b, off + j, none⟩ = some (.int .i64 (nth zs j))) :
    SeqStopsK F m Tryz.prog 192 #[.pointer (some ⟨Bs, 0, none⟩)] encP (Stay T) (fun ys => ys = ps)
      (fun pre => ∃ k, k ≤ zs.length ∧ pre = ps.take k) zs.length w := fun l J Jx W hW _ _ hY h0 => by
  have hc' := (hW.cell (p := ⟨Bs, 0, none⟩) hBw).trans hc
  by_cases hz : zs = []
  · subst hz
    have hpn : ps = [] := List.length_eq_zero_iff.1 hP.len
    subst hpn
    exact (backward1_nil_in F m hF hro l Bs n J W a cap hc' h0).mono fun e W' ⟨he, hj⟩ => ⟨he, .inl ⟨_, rfl, hj⟩⟩
  · obtain ⟨b, off, rfl, hb, hbw, hcs⟩ := hI hz
    exact backward1_in F m hF hro hm T l Bs b off cap n zs ps hP hreach hb J Jx hY W hc' (fun j hj => (hW.cell (p := ⟨b, off + j, none⟩) hbw).trans (hcs j hj)) hBs h0
end

section
open Go.Shelf
def sortFuncLays_ren : Go.Shelf.Ren := ⟨fun | 6 => 168 | 15 => 153 | 14 => 193 | 28 => 188 | 29 => 189 | 20 => 206 | 21 => 207 | 22 => 208 | 23 => 209 | 24 => 210 | 25 => 211 | 26 => 212 | 27 => 213 | 46 => 216 | 47 => 201 | 48 => 202 | 49 => 217 | 50 => 218 | 57 => 219 | n => n, fun | 22 => 28 | 24 => 27 | 25 => 204 | 3 => 3 | 39 => 103 | 0 => 0 | 53 => 218 | 55 => 26 | 4 => 4 | 46 => 211 | 45 => 210 | 50 => 215 | 5 => 5 | 9 => 9 | 66 => 227 | 70 => 231 | 76 => 239 | 77 => 240 | n => n, fun | n => n⟩
theorem sortFuncLays : Go.Proofs.SlLaysF.n6 Tryz.prog sortFuncLays_ren := {
  mixed := by kernel_rfl
  f6 := ⟨Tryz.f168.name, by decide, Tryz.func168.trans (congrArg some (by kernel_rfl))⟩
  f14 := ⟨Tryz.f193.name, by decide, Tryz.func193.trans (congrArg some (by kernel_rfl))⟩
  f15 := Tryz.func153.trans (congrArg some (by kernel_rfl))
  f20 := ⟨Tryz.f206.name, by decide, Tryz.func206.trans (congrArg some (by kernel_rfl))⟩
  f21 := ⟨Tryz.f207.name, by decide, Tryz.func207.trans (congrArg some (by kernel_rfl))⟩
  f22 := ⟨Tryz.f208.name, by decide, Tryz.func208.trans (congrArg some (by kernel_rfl))⟩
  f23 := ⟨Tryz.f209.name, by decide, Tryz.func209.trans (congrArg some (by kernel_rfl))⟩
  f24 := ⟨Tryz.f210.name, by decide, Tryz.func210.trans (congrArg some (by kernel_rfl))⟩
  f25 := ⟨Tryz.f211.name, by decide, Tryz.func211.trans (congrArg some (by kernel_rfl))⟩
  f26 := ⟨Tryz.f212.name, by decide, Tryz.func212.trans (congrArg some (by kernel_rfl))⟩
  f27 := ⟨Tryz.f213.name, by decide, Tryz.func213.trans (congrArg some (by kernel_rfl))⟩
  f28 := Tryz.func188.trans (congrArg some (by kernel_rfl))
  f29 := Tryz.func189.trans (congrArg some (by kernel_rfl))
  f46 := ⟨Tryz.f216.name, by decide, Tryz.func216.trans (congrArg some (by kernel_rfl))⟩
  f47 := Tryz.func201.trans (congrArg some (by kernel_rfl))
  f48 := Tryz.func202.trans (congrArg some (by kernel_rfl))
  f49 := ⟨Tryz.f217.name, by decide, Tryz.func217.trans (congrArg some (by kernel_rfl))⟩
  f50 := ⟨Tryz.f218.name, by decide, Tryz.func218.trans (congrArg some (by kernel_rfl))⟩
  f57 := ⟨Tryz.f219.name, by decide, Tryz.func219.trans (congrArg some (by kernel_rfl))⟩
  t0 := Tryz.underlying0
  a0 := Tryz.isAgg0
  z0 := Tryz.sizeOf0
  v0 := Tryz.zeroValue0
  t3 := Tryz.underlying3
  a3 := Tryz.isAgg3
  z3 := Tryz.sizeOf3
  v3 := Tryz.zeroValue3
  t4 := Tryz.underlying4
  a4 := Tryz.isAgg4
  z4 := Tryz.sizeOf4
  v4 := Tryz.zeroValue4
  t5 := Tryz.underlying5
  a5 := Tryz.isAgg5
  z5 := Tryz.sizeOf5
  v5 := Tryz.zeroValue5
  t9 := Tryz.underlying9
  a9 := Tryz.isAgg9
  z9 := Tryz.sizeOf9
  v9 := Tryz.zeroValue9
  t22 := Tryz.underlying28
  a22 := Tryz.isAgg28
  z22 := Tryz.sizeOf28
  v22 := Tryz.zeroValue28
  a24 := Tryz.isAgg27
  z24 := Tryz.sizeOf27
  t25 := Tryz.underlying204
  a25 := Tryz.isAgg204
  z25 := Tryz.sizeOf204
  v25 := Tryz.zeroValue204
  t39 := Tryz.underlying103
  a39 := Tryz.isAgg103
  z39 := Tryz.sizeOf103
  v39 := Tryz.zeroValue103
  t45 := Tryz.underlying210
  a45 := Tryz.isAgg210
  z45 := Tryz.sizeOf210
  v45 := Tryz.zeroValue210
  t46 := Tryz.underlying211
  a46 := Tryz.isAgg211
  z46 := Tryz.sizeOf211
  v46 := Tryz.zeroValue211
  t50 := Tryz.underlying215
  a50 := Tryz.isAgg215
  z50 := Tryz.sizeOf215
  v50 := Tryz.zeroValue215
  t53 := Tryz.underlying218
  a53 := Tryz.isAgg218
  z53 := Tryz.sizeOf218
  v53 := Tryz.zeroValue218
  t55 := Tryz.underlying26
  a55 := Tryz.isAgg26
  z55 := Tryz.sizeOf26
  v55 := Tryz.zeroValue26
  t66 := Tryz.underlying227
  a66 := Tryz.isAgg227
  z66 := Tryz.sizeOf227
  v66 := Tryz.zeroValue227
  t70 := Tryz.underlying231
  a70 := Tryz.isAgg231
  z70 := Tryz.sizeOf231
  v70 := Tryz.zeroValue231
  t76 := Tryz.underlying239
  a76 := Tryz.isAgg239
  z76 := Tryz.sizeOf239
  v76 := Tryz.zeroValue239
  t77 := Tryz.underlying240
  a77 := Tryz.isAgg240
  z77 := Tryz.sizeOf240
  v77 := Tryz.zeroValue240 }
end

section
open Go.RowKit Go.Sort Go.Lib

theorem isNaN_is (x : Int) (w : World) : Calls Tryz.prog 194 #[.int .i64 x] w fun e w' => e = .returned (.bool false) ∧ w' = w := by
  go_enter Tryz.func194, Tryz.ntmps194
  go_wp2
  go_ret
  exact ⟨rfl, rfl⟩

theorem Compare_is {x y r : Int} (hr : compareInt x y = r) (w : World) : Calls Tryz.prog 170 #[.int .i64 x, .int .i64 y] w fun e w' => e = .returned (.int .i64 r) ∧ w' = w := by
  by_cases h1 : x < y
  · have hE : Hid (r = -1) := by rw [← hr]; simp [compareInt, h1, Hid]
    clear hr
    go_enter Tryz.func170, Tryz.ntmps170
    go_wp2_with (go_at_call 194; refine (isNaN_is _ _).mono ?_; rintro e w' ⟨rfl, rfl⟩)
    go_ret
    exact ⟨by rw [hE.out]; rfl, rfl⟩
  · by_cases h2 : x > y
    · have hE : Hid (r = 1) := by rw [← hr]; simp [compareInt, h1, h2, Hid]
      clear hr
      go_enter Tryz.func170, Tryz.ntmps170
      go_wp2_with (go_at_call 194; refine (isNaN_is _ _).mono ?_; rintro e w' ⟨rfl, rfl⟩)
      go_ret
      exact ⟨by rw [hE.out]; rfl, rfl⟩
    · have hE : Hid (r = 0) := by rw [← hr]; simp [compareInt, h1, h2, Hid]
      clear hr
      go_enter Tryz.func170, Tryz.ntmps170
      go_wp2_with (go_at_call 194; refine (isNaN_is _ _).mono ?_; rintro e w' ⟨rfl, rfl⟩)
      go_ret
      exact ⟨by rw [hE.out]; rfl, rfl⟩

/-- The closure that compares two rows. -/
theorem lessRows_is {b c n m cb cc : Nat} {x y r : Int} (hr : compareInt x y = r) (w : World) (hn : 0 < n) (hm : 0 < m) (hb : w.cell? ⟨b, 0, none⟩ = some (.int .i64 x)) (hc : w.cell? ⟨c, 0, none⟩ = some (.int .i64 y)) :
    Calls Tryz.prog 169 #[.slice (some ⟨b, 0, none⟩) n cb, .slice (some ⟨c, 0, none⟩) m cc] w fun e w' => e = .returned (.int .i64 r) ∧ ∃ q, w' = w.drewN q := by
  have hC := Lib.hid (fun W : World => Compare_is hr W)
  have hn' : (0 : Int) < n := by omega
  have hm' : (0 : Int) < m := by omega
  clear hr
  go_enter Tryz.func169, Tryz.ntmps169
  go_wp2
  go_region_held3 (fun w' => w'.cell? ⟨b, 0, none⟩ = some (.int .i64 x) ∧ w'.cell? ⟨c, 0, none⟩ = some (.int .i64 y))
    (first
      | go_keep
      | exact ⟨hb, hc⟩)
    (first | (go_at_call 170; refine (hC.out _).mono ?_; rintro e w' ⟨rfl, rfl⟩))
  go_wp2
  go_ret
  exact ⟨rfl, 1, rfl⟩

theorem heap_sortedE {α : Type} [Inhabited α] (enc : α → Value) {w : World} {g n : Nat} {os : Array Obj} {cur : Array Value} {e : TypeId} {fr : Nat × Nat} (d : Array α) (hb : w.heap[g]? = some (.cells cur e fr)) :
    (sortWorld enc w g 0 n d os).heap[g]? = some (.cells (putCells enc 0 d cur) e fr) := by
  have hg : g < w.heap.size := (Array.getElem?_eq_some_iff.1 hb).1
  unfold sortWorld
  rw [heap_grow_old _ _ (by simpa using hg)]
  simp [putRow, mapBlock, Sort.ahead, Array.getElem?_modify, hb, onCells]

theorem grownBy_sortedE {α : Type} [Inhabited α] (enc : α → Value) {w : World} {g n : Nat} {os : Array Obj} (d : Array α) : w.grownBy (sortWorld enc w g 0 n d os) (some g) := by
  unfold sortWorld
  refine ⟨rfl, rfl, rfl, by simp, fun k hk hne => ?_⟩
  rw [heap_grow_old _ _ (by simpa using hk)]
  have : g ≠ k := fun e => hne (by rw [e])
  simp [putRow, mapBlock, Sort.ahead, Array.getElem?_modify, this]

theorem take_putCellsE {α : Type} [Inhabited α] (enc : α → Value) (cur : Array Value) (d : Array α) (h : d.size ≤ cur.size) : (putCells enc 0 d cur).toList.take d.size = d.toList.map enc := by
  apply List.ext_getElem?
  intro j
  by_cases hj : j < d.size
  · rw [List.getElem?_take_of_lt hj, Array.getElem?_toList]
    simp [putCells, hj, show j < cur.size by omega]
  · rw [List.getElem?_take_eq_none (by omega), List.getElem?_eq_none (by simp; omega)]

/-- A row that is sorted: its value, its numbers. -/
structure RowV (w : World) (B blk : Nat) where
  v : Value
  zs : List Int
  own : OwnInts w B w.heap.size v zs
  pos : 0 < zs.length
  ne : v.ownBlock ≠ some blk

theorem RowV.shape {w : World} {B blk : Nat} (x : RowV w B blk) : ∃ g cap, x.v = .slice (some ⟨g, 0, none⟩) x.zs.length cap ∧ g ≠ blk ∧ g < w.heap.size ∧ w.cell? ⟨g, 0, none⟩ = some (.int .i64 (hd x.zs)) := by
  obtain ⟨a, cap, hv, hi, hb⟩ := x.own.shape
  obtain ⟨g, rfl, _, hlt, hg, _⟩ := hb x.pos
  obtain ⟨b, off, e, hc⟩ := hi.cell x.pos
  obtain ⟨rfl, rfl⟩ : g = b ∧ 0 = off := by simpa using e
  have h0 := hc 0 x.pos
  exact ⟨g, cap, hv, fun e => x.ne (by rw [hg, e]), hlt, by simpa [hd] using h0⟩

def cfRow {w : World} {B blk : Nat} (x y : RowV w B blk) : Int := compareInt (hd x.zs) (hd y.zs)

theorem ltRow {w : World} {B blk : Nat} (x y : RowV w B blk) : Go.Proofs.ltOf cfRow x y = decide (hd x.zs < hd y.zs) := by
  unfold Go.Proofs.ltOf cfRow compareInt
  by_cases h1 : hd x.zs < hd y.zs
  · simp [h1]
  · by_cases h2 : hd y.zs < hd x.zs <;> simp [h1, h2]

theorem swoRow {w : World} {B blk : Nat} : SWO (Go.Proofs.ltOf (cfRow (w := w) (B := B) (blk := blk))) where
  irrefl x := by rw [ltRow]; simp
  trans x y z h1 h2 := by rw [ltRow] at *; simp at *; omega
  ntrans x y z h1 h2 := by rw [ltRow] at *; simp at *; omega

theorem cmpRow {w : World} {B blk : Nat} [Inhabited (RowV w B blk)] (size : Nat) : Go.Proofs.CmpReads Tryz.prog 169 #[] (fun x : RowV w B blk => x.v) cfRow blk 0 size w := fun m os dk _ x y => by
  obtain ⟨g, c1, e1, n1, l1, h1⟩ := x.shape
  obtain ⟨g', c2, e2, n2, l2, h2⟩ := y.shape
  show Calls _ _ (#[x.v, y.v] ++ #[]) _ _
  rw [e1, e2]
  exact lessRows_is rfl _ x.pos y.pos ((World.cell?_of_block ((grownBy_sortedE _ dk).block g l1 (fun e => n1 (by simpa using e)))).trans h1) ((World.cell?_of_block ((grownBy_sortedE _ dk).block g' l2 (fun e => n2 (by simpa using e)))).trans h2)

/-- slices.SortFunc over rows of one's own: the same rows, by their first elements. -/
theorem sortRows_is {w : World} {B : Nat} {v : Value} {V : Nat → Value} {zss : List (List Int)} (h : OwnRows w B w.heap.size v V zss) (hpos : ∀ p ∈ zss, 0 < p.length) (hl : zss.length ≤ 1048576) :
    Calls Tryz.prog 168 #[v, .func (.func 169) #[] #[]] w fun e w' => e = .returned (.tuple #[]) ∧ Only (fun b => v.ownBlock = some b) w w' ∧
      ∃ V' R, OwnRows w' B w'.heap.size v V' R ∧ R.Perm zss ∧ R.Pairwise fun p q => ¬ hd q < hd p := by
  rcases h.own.2 with ⟨hv, h0⟩ | ⟨g, cap, cur, hv, hg, hb, hc, hm, hcs, ht⟩
  · have hz : zss = [] := List.length_eq_zero_iff.1 h0
    subst hz
    subst hv
    refine (Go.Proofs.AnyF.slices_SortFunc_none { sortFuncLays with } none 0 _ w).mono ?_
    rintro e w' ⟨rfl, rfl⟩
    exact ⟨rfl, Only.refl _ _, V, [], h, .refl _, .nil⟩
  · subst hv
    have hlt : g < w.heap.size := (Array.getElem?_eq_some_iff.1 hb).1
    by_cases hz : zss.length = 0
    · have hz' : zss = [] := List.length_eq_zero_iff.1 hz
      subst hz'
      refine (Go.Proofs.AnyF.slices_SortFunc_none { sortFuncLays with } (some ⟨g, 0, none⟩) cap _ w).mono ?_
      rintro e w' ⟨rfl, rfl⟩
      exact ⟨rfl, Only.refl _ _, V, [], h, .refl _, .nil⟩
    · have hrow : ∀ k (hk : k < zss.length), 0 < (row zss k).length := fun k hk => hpos _ (by rw [row_eq hk]; exact List.getElem_mem _)
      have hne : ∀ k, k < zss.length → (V k).ownBlock ≠ some g := fun k hk => own_types h.own (h.rows k hk).own g rfl
      let f : Fin zss.length → RowV w B g := fun k => ⟨V k, row zss k, h.rows k k.isLt, hrow k k.isLt, hne k k.isLt⟩
      haveI : Inhabited (RowV w B g) := ⟨f ⟨0, by omega⟩⟩
      let d : Array (RowV w B g) := Array.ofFn f
      have hds : d.size = zss.length := by simp [d]
      have hdl : d.toList.map (fun x => x.v) = (List.range zss.length).map V := by
        apply List.ext_getElem
        · simp [d]
        · intro i h1 h2
          simp [d, f]
      have hdz : d.toList.map (fun x => x.zs) = zss := by
        apply List.ext_getElem
        · simp [d]
        · intro i h1 h2
          simp [d, f, row_eq (show i < zss.length by simpa using h2)]
      have hH : Holds (fun x : RowV w B g => x.v) w g 0 d := fun j hj => by
        have hj' : j < zss.length := by omega
        refine ⟨?_, h.own.frozenAt _⟩
        rw [Nat.zero_add, h.own.cellAt j (by omega)]
        simp [d, f, hj']
      have eg : ∀ args w, (callFunc 169 args).run Tryz.prog w = .ok (.enter 169 args) w := Go.Proofs.enters_of Tryz.func169 (by kernel_rfl) rfl
      have hcon := Go.Proofs.Any.slices_SortFunc sortFuncLays (fun x : RowV w B g => x.v) (fun x => by obtain ⟨b, c, e, _⟩ := x.shape; simp only [e]; rfl) cfRow swoRow 169 #[] g 0 cap d w eg (cmpRow d.size).lays hH hlt (by omega)
      rw [hds] at hcon
      refine hcon.mono ?_
      rintro e w' ⟨rfl, d', n, os, hp, hs, rfl⟩
      obtain ⟨hsz, _, hperm⟩ := hp
      have hsz' : d'.size = d.size := hsz
      have hperm' : d'.toList.Perm d.toList := by
        rw [← hds] at hperm
        have e1 : d'.extract 0 d.size = d' := by rw [← hsz']; exact Array.extract_size
        rw [e1, Array.extract_size] at hperm
        exact hperm
      have hO : Only (fun b => (Value.slice (some ⟨g, 0, none⟩) zss.length cap).ownBlock = some b) w (sortWorld (fun x : RowV w B g => x.v) w g 0 n d' os) :=
        (Only.of_grown (grownBy_sortedE _ d')).mono fun b hb => by simpa [Value.ownBlock] using hb
      refine ⟨rfl, hO, fun k => (d'.getD k (f ⟨0, by omega⟩)).v, d'.toList.map fun x => x.zs, ?_, ?_, ?_⟩
      · have hlz : (d'.toList.map fun x => x.zs).length = d'.size := by simp
        have hdn : d'.size = zss.length := by omega
        have hV : ∀ k (hk : k < d'.size), (d'.getD k (f ⟨0, by omega⟩)) = d'[k] := fun k hk => by simp [Array.getD, hk]
        have hZ : ∀ k (hk : k < d'.size), row (d'.toList.map fun x => x.zs) k = (d'[k]).zs := fun k hk => by
          rw [row_eq (by rw [hlz]; exact hk)]; simp
        have hown : (sortWorld (fun x : RowV w B g => x.v) w g 0 n d' os).ownsRow B 27 1 (.slice (some ⟨g, 0, none⟩) d'.size cap) d'.size (d'.toList.map fun x => x.v) :=
          ⟨by simp, .inr ⟨g, cap, _, rfl, hg, heap_sortedE _ _ hb, by omega, hm, by simp [putCells, hcs], by rw [Nat.mul_one]; exact take_putCellsE _ cur d' (by omega)⟩⟩
        have hmap : (List.range d'.size).map (fun k => (d'.getD k (f ⟨0, by omega⟩)).v) = d'.toList.map fun x => x.v := by
          apply List.ext_getElem
          · simp
          · intro i h1 h2
            have hi : i < d'.size := by simpa using h2
            simp [hi]
        have hP0 : d.toList.Pairwise fun x y => ∀ b, x.v.ownBlock = some b → y.v.ownBlock ≠ some b := by
          rw [List.pairwise_iff_getElem]
          intro i j hi hj hij b h1 h2
          have hi' : i < zss.length := by simpa [d] using hi
          have hj' : j < zss.length := by simpa [d] using hj
          exact h.apart i j hi' hj' (by omega) b (by simpa [d, f] using h1) (by simpa [d, f] using h2)
        have hP1 : d'.toList.Pairwise fun x y => ∀ b, x.v.ownBlock = some b → y.v.ownBlock ≠ some b :=
          (hperm'.pairwise_iff (fun {x y} hxy b h1 h2 => hxy b h2 h1)).2 hP0
        rw [List.pairwise_iff_getElem] at hP1
        refine ⟨by rw [hlz, hmap, ← hdn]; exact hown, fun b hb => ?_, by rw [hlz, hdn]; exact h.len, fun k hk => ?_, fun i j hi hj hne b h1 h2 => ?_⟩
        · exact (hown.lt b hb).2
        · rw [hlz] at hk
          rw [hZ k hk]
          simp only [hV k hk]
          exact ((d'[k]).own.only hO (fun b h1 h2 => (d'[k]).ne (by rw [h1]; simpa [Value.ownBlock] using h2.symm))).retop
        · rw [hlz] at hi hj
          simp only [hV i hi] at h1
          simp only [hV j hj] at h2
          by_cases hij : i < j
          · exact hP1 i j (by simpa using hi) (by simpa using hj) hij b (by simpa using h1) (by simpa using h2)
          · exact hP1 j i (by simpa using hj) (by simpa using hi) (by omega) b (by simpa using h2) (by simpa using h1)
      · rw [← hdz]; exact hperm'.map _
      · rw [List.pairwise_map, List.pairwise_iff_getElem]
        intro i j hi hj hij
        have hi' : i < d'.size := by simpa using hi
        have hj' : j < d'.size := by simpa using hj
        have := hs i j (Nat.zero_le _) hij (by omega)
        rw [getElem!_pos d' j hj', getElem!_pos d' i hi', ltRow] at this
        simpa using this
end

section
open Go.RowKit

/-- The blocks of S are cells. -/
def CellsOf (S : Nat → Prop) (W : World) : Prop := ∀ k o, S k → W.heap[k]? = some o → o.isCells = true

theorem keeps_only {S : Nat → Prop} {W W' : World} (h : Only S W W') (hc : CellsOf S W) : KeepsOthers W W' :=
  ⟨h.size, fun k o hk ho => (h.block k (Array.getElem?_eq_some_iff.1 hk).1 (fun hs => by rw [hc k o hs hk] at ho; cases ho)).trans hk⟩

theorem rowIs_cells {w : World} {g n : Nat} {t : TypeId} {f : Nat → Value} (h : w.rowIs g t n f) : ∃ o : Obj, w.heap[g]? = some o ∧ o.isCells = true := by
  obtain ⟨c, hc, _⟩ := h
  exact ⟨_, hc, rfl⟩
theorem ownsRow_cells {w : World} {B size n : Nat} {e : TypeId} {v : Value} {xs : List Value} (h : w.ownsRow B e size v n xs) {g : Nat} (hg : v.ownBlock = some g) : ∃ o : Obj, w.heap[g]? = some o ∧ o.isCells = true := by
  rcases h.2 with ⟨rfl, _⟩ | ⟨g', cap, cur, rfl, _, hgb, _⟩
  · simp [Value.ownBlock] at hg
  · obtain rfl : g' = g := by simpa [Value.ownBlock] using hg
    exact ⟨_, hgb, rfl⟩
theorem boxed_cells {w : World} {g : Nat} {t : TypeId} {v : Value} (h : Boxed w g t v) : ∃ o : Obj, w.heap[g]? = some o ∧ o.isCells = true := ⟨_, h, rfl⟩
theorem isCells_of {W : World} {k : Nat} {o : Obj} (h : ∃ o : Obj, W.heap[k]? = some o ∧ o.isCells = true) (ho : W.heap[k]? = some o) : o.isCells = true := by
  obtain ⟨o', h1, h2⟩ := h
  rw [ho] at h1; cases h1; exact h2

theorem Only.later {S T : Nat → Prop} {a b c : World} (h : Only S a b) (k : Only T b c) (hT : ∀ i, T i → S i ∨ a.heap.size ≤ i) : Only S a c :=
  ⟨k.os.trans h.os, k.tape.trans h.tape, k.output.trans h.output, Nat.le_trans h.size k.size, fun i hi hs => (k.block i (Nat.lt_of_lt_of_le hi h.size) (fun ht => by rcases hT i ht with h1 | h1 <;> first | exact hs h1 | omega)).trans (h.block i hi hs)⟩

theorem boxed_only {S : Nat → Prop} {W W' : World} {g : Nat} {t : TypeId} {v : Value} (h : Boxed W g t v) (hk : Only S W W') (hs : ¬ S g) : Boxed W' g t v := (hk.block g h.lt hs).trans h

theorem Cur.only {w w' : World} {S : Nat → Prop} {p bo B n : Nat} {sn : Value} {o : Nat → Bool} (h : Cur w p bo B n sn (.slice none 0 0) o []) (hk : Only S w w') (hp : ¬ S p) (hb : ¬ S bo) : Cur w' p bo B n sn (.slice none 0 0) o [] :=
  ⟨rowIs_only h.str hk hp, rowIs_only h.opn hk hb, World.ownsRow_nil _ _ _ _⟩
theorem Cur.rebase {w : World} {p bo B n : Nat} {sn : Value} {o : Nat → Bool} (h : Cur w p bo B n sn (.slice none 0 0) o []) (B' : Nat) : Cur w p bo B' n sn (.slice none 0 0) o [] :=
  ⟨h.str, h.opn, World.ownsRow_nil _ _ _ _⟩

/-- Between two rounds: the rows so far are own, the cursor has left nothing behind. -/
structure KI (W5 : World) (b8 pb bo n : Nat) (sn : Value) (R : List (List Int)) (o : Nat → Bool) (W : World) : Prop where
  rows : ∃ uu V, Boxed W b8 28 uu ∧ OwnRows W W5.heap.size W.heap.size uu V R
  cur : Cur W pb bo W5.heap.size n sn (.slice none 0 0) o []
  only : Only (fun b => b = b8 ∨ b = pb ∨ b = bo) W5 W

theorem KI.grown {W5 W W' : World} {b8 pb bo n : Nat} {sn : Value} {R : List (List Int)} {o : Nat → Bool} {row : Option Nat} (h : KI W5 b8 pb bo n sn R o W) (hg : W.grownBy W' row)
    (hr : ∀ r, row = some r → W5.heap.size ≤ r ∧ ∃ ob : Obj, W.heap[r]? = some ob ∧ ob.isCells = false) : KI W5 b8 pb bo n sn R o W' := by
  obtain ⟨⟨uu, V, h1, h2⟩, h3, h4⟩ := h
  have hO := Only.of_grown hg
  have hn : ∀ g, (∃ ob : Obj, W.heap[g]? = some ob ∧ ob.isCells = true) → ¬ row = some g := fun g hc e => by
    obtain ⟨_, ob, ho, hf⟩ := hr g e
    rw [isCells_of hc ho] at hf; cases hf
  refine ⟨⟨uu, V, boxed_only h1 hO (hn _ (boxed_cells h1)), (h2.only hO (fun g hg => hn g (ownsRow_cells h2.own hg)) (fun k hk g hg => hn g (ownsRow_cells (h2.rows k hk).own hg))).retop⟩, h3.only hO (hn _ (rowIs_cells h3.str)) (hn _ (rowIs_cells h3.opn)), h4.later hO fun i hi => .inr (hr i hi).1⟩

theorem KI.own {β : Type} {W5 : World} {b8 pb bo n : Nat} {sn : Value} (R : β → List (List Int)) (o : β → Nat → Bool) : OwnFrom W5.heap.size fun (s : β) W => KI W5 b8 pb bo n sn (R s) (o s) W :=
  fun _ _ _ _ hs hg hr => hs.grown hg hr

/-- The blocks that a round turns. -/
def Turns (b8 pb bo : Nat) (uu : Value) : Nat → Prop := fun b => b = b8 ∨ b = pb ∨ b = bo ∨ uu.ownBlock = some b

theorem KI.cells {W5 W : World} {b8 pb bo n : Nat} {sn uu : Value} {R : List (List Int)} {o : Nat → Bool} {V : Nat → Value} (h : KI W5 b8 pb bo n sn R o W) (h1 : Boxed W b8 28 uu) (h2 : OwnRows W W5.heap.size W.heap.size uu V R) : CellsOf (Turns b8 pb bo uu) W := by
  rintro k o' (rfl | rfl | rfl | hk) ho
  · exact isCells_of (boxed_cells h1) ho
  · exact isCells_of (rowIs_cells h.cur.str) ho
  · exact isCells_of (rowIs_cells h.cur.opn) ho
  · exact isCells_of (ownsRow_cells h2.own hk) ho

theorem stay_only {T S : Nat → Prop} {W W' : World} (h : Only S W W') (hT : ∀ k, T k → k < W.heap.size ∧ ¬ S k) : Stay T W W' := fun k hk => h.block k (hT k hk).1 (hT k hk).2

/-- A round that appends nothing. -/
theorem KI.no {T : Nat → Prop} {W5 W Wa Wb : World} {b8 pb bo n : Nat} {sn vl' : Value} {R : List (List Int)} {o o' : Nat → Bool} {part : List Int} (h : KI W5 b8 pb bo n sn R o W) (_hb8 : b8 < W5.heap.size) (hpb : pb < W5.heap.size) (hbo : bo < W5.heap.size) (h8p : b8 ≠ pb) (h8b : b8 ≠ bo) (hT : ∀ k, T k → k < W5.heap.size ∧ k ≠ b8 ∧ k ≠ pb ∧ k ≠ bo)
    (_ha : Cur Wa pb bo W.heap.size n sn vl' o' part) (hoa : Only (fun b => b = pb ∨ b = bo ∨ W.heap.size ≤ b) W Wa) (hb : Cur Wb pb bo W.heap.size n sn (.slice none 0 0) o' []) (hob : Only (fun b => b = pb) Wa Wb) :
    KI W5 b8 pb bo n sn R o' Wb ∧ KeepsOthers W Wb ∧ Stay T W Wb := by
  obtain ⟨uu, V, h1, h2⟩ := h.rows
  have hsz := h.only.size
  have h0 : Only (fun b => b = pb ∨ b = bo) W Wa := ⟨hoa.os, hoa.tape, hoa.output, hoa.size, fun k hk hn => hoa.block k hk (fun hh => by rcases hh with h | h | h <;> first | exact hn (.inl h) | exact hn (.inr h) | omega)⟩
  have hO : Only (fun b => b = pb ∨ b = bo) W Wb := h0.trans (hob.mono fun _ h => .inl h)
  have hrow : ∀ {e : TypeId} {size m : Nat} {v : Value} {xs : List Value}, W.ownsRow W5.heap.size e size v m xs → ∀ g, v.ownBlock = some g → ¬ (g = pb ∨ g = bo) := fun hr g hg => by
    have := (hr.lt g hg).1; omega
  refine ⟨⟨⟨uu, V, boxed_only h1 hO (by omega), (h2.only hO (hrow h2.own) (fun k hk => hrow (h2.rows k hk).own)).retop⟩, hb.rebase _, h.only.later hO fun i hi => .inl (.inr hi)⟩, keeps_only (hO.mono (T := Turns b8 pb bo uu) fun k hk => by rcases hk with h | h <;> first | exact .inr (.inl h) | exact .inr (.inr (.inl h))) (h.cells h1 h2), stay_only hO fun k hk => ?_⟩
  obtain ⟨t1, t2, t3, t4⟩ := hT k hk
  exact ⟨by omega, fun hh => by rcases hh with h | h <;> omega⟩

/-- A round that appends a row. -/
theorem KI.yes {T : Nat → Prop} {W5 W Wa Wb Wc w1 : World} {b8 pb bo n : Nat} {sn vl' uu v' : Value} {V : Nat → Value} {R : List (List Int)} {o o' : Nat → Bool} {part sorted : List Int} {ob : Obj} (h : KI W5 b8 pb bo n sn R o W) (hb8 : b8 < W5.heap.size) (hpb : pb < W5.heap.size) (hbo : bo < W5.heap.size) (h8p : b8 ≠ pb) (h8b : b8 ≠ bo) (hT : ∀ k, T k → k < W5.heap.size ∧ k ≠ b8 ∧ k ≠ pb ∧ k ≠ bo)
    (h1 : Boxed W b8 28 uu) (h2 : OwnRows W W5.heap.size W.heap.size uu V R)
    (hoa : Only (fun b => b = pb ∨ b = bo ∨ W.heap.size ≤ b) W Wa) (hb : Cur Wb pb bo W.heap.size n sn (.slice none 0 0) o' []) (hob : Only (fun b => b = pb) Wa Wb) (hlb : Wb.ownsRow W.heap.size 2 1 vl' part.length (part.map (Value.int .i64)))
    (hs : Wc.ownsRow W.heap.size 2 1 vl' sorted.length (sorted.map (Value.int .i64))) (hoc : Only (fun b => vl'.ownBlock = some b) Wb Wc) (hf : ∀ k, k < sorted.length → Fits (nth sorted k)) (hl : sorted.length ≤ 1048576) (hRl : R.length ≤ 1048576)
    (hown : w1.ownsRow W5.heap.size 27 1 v' (R.length + 1) ((List.range R.length).map V ++ [vl'])) (hgrow : (Wc.alloc ob).grownBy w1 uu.ownBlock) :
    KI W5 b8 pb bo n sn (R ++ [sorted]) o' (w1.setCell ⟨b8, 0, none⟩ v') ∧ KeepsOthers W (w1.setCell ⟨b8, 0, none⟩ v') ∧ Stay T W (w1.setCell ⟨b8, 0, none⟩ v') := by
  have hsz := h.only.size
  have h0 : Only (fun b => b = pb ∨ b = bo) W Wa := ⟨hoa.os, hoa.tape, hoa.output, hoa.size, fun k hk hn => hoa.block k hk (fun hh => by rcases hh with h | h | h <;> first | exact hn (.inl h) | exact hn (.inr h) | omega)⟩
  have hOb : Only (fun b => b = pb ∨ b = bo) W Wb := h0.trans (hob.mono fun _ h => .inl h)
  have hnew : ∀ g, vl'.ownBlock = some g → W.heap.size ≤ g := fun g hg => (hlb.lt g hg).1
  have hOc : Only (fun b => b = pb ∨ b = bo) W Wc := hOb.later hoc fun i hi => .inr (hnew i hi)
  have hOd : Only (fun b => b = pb ∨ b = bo) W (Wc.alloc ob) := hOc.later (T := fun _ => False) (Only.of_below (below1 _ _)) fun i hi => hi.elim
  have hrow : ∀ {e : TypeId} {size m : Nat} {v : Value} {xs : List Value}, W.ownsRow W5.heap.size e size v m xs → ∀ g, v.ownBlock = some g → ¬ (g = pb ∨ g = bo) := fun hr g hg => by
    have := (hr.lt g hg).1; omega
  have hub : ∀ g, uu.ownBlock = some g → W5.heap.size ≤ g := fun g hg => (h2.own.lt g hg).1
  have hd1 : Boxed (Wc.alloc ob) b8 28 uu := boxed_only h1 hOd (by omega)
  have hd2 : OwnRows (Wc.alloc ob) W5.heap.size W.heap.size uu V R := h2.only hOd (hrow h2.own) (fun k hk => hrow (h2.rows k hk).own)
  have hdi : OwnInts (Wc.alloc ob) W5.heap.size (Wc.alloc ob).heap.size vl' sorted := ((OwnInts.mk' hs (by omega) hf).base hsz).below (below1 _ _) |>.retop
  have hap : ∀ i, i < R.length → ∀ g, vl'.ownBlock = some g → (V i).ownBlock ≠ some g := fun i hi g hg hg2 => by
    have a1 := hnew g hg
    have a2 := ((h2.rows i hi).own.lt g hg2).2
    omega
  have hp := hd2.push hdi hap hown (Only.of_grown hgrow) (by omega)
  have hdc : Cur (Wc.alloc ob) pb bo W5.heap.size n sn (.slice none 0 0) o' [] := by
    refine ((hb.only hoc (fun e => ?_) (fun e => ?_)).only (S := fun _ => False) (Only.of_below (below1 _ _)) id id).rebase _
    · have := hnew _ e; omega
    · have := hnew _ e; omega
  have h81 : Boxed w1 b8 28 uu := boxed_only hd1 (Only.of_grown hgrow) (fun e => by have := hub _ e; omega)
  have hc1 : Cur w1 pb bo W5.heap.size n sn (.slice none 0 0) o' [] := hdc.only (Only.of_grown hgrow) (fun e => by have := hub _ e; omega) (fun e => by have := hub _ e; omega)
  have hS : Only (fun b => b = b8) w1 (w1.setCell ⟨b8, 0, none⟩ v') := (Only.refl (fun b => b = b8) w1).setCell (p := ⟨b8, 0, none⟩) rfl v'
  have hO : Only (Turns b8 pb bo uu) W (w1.setCell ⟨b8, 0, none⟩ v') :=
    ((hOd.mono (T := Turns b8 pb bo uu) fun k hk => by rcases hk with h | h <;> first | exact .inr (.inl h) | exact .inr (.inr (.inl h))).trans ((Only.of_grown hgrow).mono fun k hk => .inr (.inr (.inr hk)))).trans (hS.mono fun k hk => .inl hk)
  refine ⟨⟨⟨v', _, h81.set v', (hp.only hS (fun g hg e => ?_) (fun k hk g hg e => ?_)).retop⟩, hc1.only hS (Ne.symm h8p) (Ne.symm h8b), h.only.later hO fun i hi => ?_⟩, keeps_only hO (h.cells h1 h2), stay_only hO fun k hk => ?_⟩
  · have := (hp.own.lt g hg).1; omega
  · have := ((hp.rows k hk).own.lt g hg).1; omega
  · rcases hi with h | h | h | h
    · exact .inl (.inl h)
    · exact .inl (.inr (.inl h))
    · exact .inl (.inr (.inr h))
    · exact .inr (hub _ h)
  · obtain ⟨t1, t2, t3, t4⟩ := hT k hk
    exact ⟨by omega, fun hh => by
      rcases hh with h | h | h | h
      · omega
      · omega
      · omega
      · have := hub _ h; omega⟩

open Go.RowKit

/-- The first m blocks alone. -/
def cutAt (W : World) (m : Nat) : World := { W with heap := W.heap.extract 0 m }
theorem cutAt_size {W : World} {m : Nat} (h : m ≤ W.heap.size) : (cutAt W m).heap.size = m := by simp [cutAt]; omega
theorem cutAt_block {W : World} {m k : Nat} (hk : k < m) : (cutAt W m).heap[k]? = W.heap[k]? := by
  simp only [cutAt, Array.getElem?_extract]
  split
  · simp
  · next h => rw [eq_comm, Array.getElem?_eq_none_iff]; omega
theorem cutAt_below {W : World} {m : Nat} (h : m ≤ W.heap.size) : Below (cutAt W m).heap.size (cutAt W m) W :=
  ⟨rfl, rfl, rfl, by rw [cutAt_size h]; exact h, fun k hk => (cutAt_block (by rw [cutAt_size h] at hk; exact hk)).symm⟩

theorem IntsAt.move {P : Nat → Prop} {w w' : World} {a : Option Addr} {zs : List Int} (h : IntsAt w a zs) (hb : ∀ b, P b → w'.heap[b]? = w.heap[b]?) (ha : ∀ b off, a = some ⟨b, off, none⟩ → P b) : IntsAt w' a zs :=
  ⟨h.len, h.fits, fun h0 => by
    obtain ⟨b, off, he, hc⟩ := h.cell h0
    exact ⟨b, off, he, fun k hk => (World.cell?_of_block (hb b (ha b off he))).trans (hc k hk)⟩⟩
theorem RowsAt.move {P : Nat → Prop} {w w' : World} {a : Option Addr} {A : Nat → Option Addr} {C : Nat → Nat} {zss : List (List Int)} (h : RowsAt w a A C zss) (hb : ∀ b, P b → w'.heap[b]? = w.heap[b]?) (ha : ∀ b off, a = some ⟨b, off, none⟩ → P b)
    (hA : ∀ k, k < zss.length → ∀ b off, A k = some ⟨b, off, none⟩ → P b) : RowsAt w' a A C zss :=
  ⟨h.len, fun h0 => by
    obtain ⟨b, off, he, hc⟩ := h.cell h0
    exact ⟨b, off, he, fun k hk => (World.cell?_of_block (hb b (ha b off he))).trans (hc k hk)⟩, fun k hk => (h.rows k hk).move hb (hA k hk)⟩

theorem addr_block {w : World} {B e size n : Nat} {v : Value} {xs : List Value} (h : w.ownsRow B e size v n xs) {b off : Nat} (ha : addrOf v = some ⟨b, off, none⟩) : B ≤ b ∧ b < w.heap.size := by
  rcases h.2 with ⟨rfl, _⟩ | ⟨g, cap, cur, rfl, hg, hgb, _⟩
  · simp [addrOf] at ha
  · have : g = b := by simp [addrOf] at ha; exact ha.1
    subst this
    exact ⟨hg, (Array.getElem?_eq_some_iff.1 hgb).1⟩

/-- The rows that preds leaves read as rows, in blocks of their own. -/
theorem RowSet.rowsAt {w : World} {B g n : Nat} {V : Nat → Value} {R : Nat → List Int} (h : RowSet w B g n V R) (hn : n ≤ 17592186044416) :
    RowsAt w (some ⟨g, 0, none⟩) (fun k => addrOf (V k)) (fun k => capOf (V k)) (rowsOf n R) ∧ (B ≤ g ∧ g < w.heap.size) ∧ ∀ k, k < n → ∀ b off, addrOf (V k) = some ⟨b, off, none⟩ → B ≤ b ∧ b < w.heap.size := by
  have hl := rowsOf_len n R
  refine ⟨⟨by omega, fun _ => ⟨g, 0, rfl, fun k hk => ?_⟩, fun k hk => ?_⟩, addr_block h.own rfl, fun k hk b off ha => addr_block (h.rows k hk).own ha⟩
  · rw [hl] at hk
    obtain ⟨a, cap, hv, _, _⟩ := (h.rows k hk).shape
    rw [rowsOf_row hk, Nat.zero_add, h.own.cellAt k (by omega)]
    simp [hk, hv, addrOf, capOf]
  · rw [hl] at hk
    obtain ⟨a, cap, hv, hi, _⟩ := (h.rows k hk).shape
    rw [rowsOf_row hk, hv]
    exact hi

/-- The pairs that slices.Backward hands on. -/
theorem back_ex {n : Nat} : ∀ (l : List Int), (∀ x ∈ l, ∃ u : Nat, x = (u : Int) ∧ u < n) → ∃ ps : List (Nat × Fin n), BackP ps l.reverse ∧ ps.map (fun x => ((x.2.val : Nat) : Int)) = l
  | [], _ => ⟨[], ⟨rfl, fun k h => absurd h (by simp)⟩, rfl⟩
  | x :: l, h => by
    obtain ⟨ps, hp, hm⟩ := back_ex (n := n) l (fun y hy => h y (List.mem_cons_of_mem _ hy))
    obtain ⟨u, hu, hlt⟩ := h x (List.mem_cons_self ..)
    refine ⟨(l.length, ⟨u, hlt⟩) :: ps, ⟨by simp [hp.len], fun k hk => ?_⟩, by simp [hm, hu]⟩
    have hpl : ps.length = l.length := by rw [hp.len, List.length_reverse]
    cases k with
    | zero =>
      refine ⟨by simp, ?_⟩
      simp [nth, hu]
    | succ k =>
      have hk' : k < ps.length := by simpa using hk
      obtain ⟨e1, e2⟩ := hp.at_ k hk'
      rw [List.length_reverse] at e1
      refine ⟨by simp; omega, ?_⟩
      rw [List.getElem_cons_succ, e2]
      have hlt2 : (ps[k]).1 < l.reverse.length := by rw [List.length_reverse]; omega
      rw [List.reverse_cons]
      unfold nth
      rw [List.getD_eq_getElem?_getD, List.getD_eq_getElem?_getD, List.getElem?_append_left hlt2]

theorem follow_at {w0 : World} {an : Option Addr} {A : Nat → Option Addr} {C : Nat → Nat} {cn n : Nat} {zss : List (List Int)} {p bo B : Nat} (hlen : zss.length = n) (hN : RowsAt w0 an A C zss) (hn : zss.length ≤ 256) (hl : ∀ u, u < zss.length → (row zss u).length ≤ 256)
    (hin : ∀ u : Nat, u < zss.length → ∀ x ∈ row zss u, ∃ v : Nat, x = (v : Int) ∧ v < zss.length) (hp : w0.heap.size ≤ p) (hbo : w0.heap.size ≤ bo) (hpB : p < B) (hboB : bo < B) (hne : p ≠ bo)
    (f : Nat) (w : World) (vl : Value) (o : Nat → Bool) (v : Nat) (hv : v < n) (ho : opens o n < f) (hB : B ≤ w.heap.size) (hw : Below w0.heap.size w0 w) (hc : Cur w p bo B n (.slice an n cn) vl o []) :
      Calls Tryz.prog 164 #[.pointer (some ⟨p, 0, none⟩), .int .i64 v] w fun e w' => e = .returned (.tuple #[]) ∧
        (∃ vl', Cur w' p bo B n (.slice an n cn) vl' (dfs zss f o v).1 (dfs zss f o v).2) ∧ Only (fun b => b = p ∨ b = bo ∨ B ≤ b) w w' := by
  subst hlen
  have h := opens_le o zss.length
  exact follow_is hN hn hl hin hp hbo hpB hboB hne f w vl o [] v hv ho (by simp; omega) hB hw hc

theorem boxed_below {W W' : World} {g : Nat} {t : TypeId} {v : Value} (h : Boxed W g t v) (hb : Below W.heap.size W W') : Boxed W' g t v := (hb.block _ h.lt).trans h
theorem box2_only {S : Nat → Prop} {W W' : World} {g : Nat} {t : TypeId} {u v : Value} (h : Box2 W g t u v) (hk : Only S W W') (hs : ¬ S g) : Box2 W' g t u v := (hk.block _ h.lt hs).trans h

/-- The vertices that have come. -/
def valsOf {n : Nat} (pre : List (Nat × Fin n)) : List Int := pre.map fun x => ((x.2.val : Nat) : Int)
theorem valsOf_snoc {n : Nat} (pre : List (Nat × Fin n)) (x : Nat × Fin n) : valsOf (pre ++ [x]) = valsOf pre ++ [((x.2.val : Nat) : Int)] := by simp [valsOf]
end

section
open Go.RowKit Go.Shelf

attribute [local go_sem] Oper.semAt_some

theorem preds_atK {w : World} {va : Value} {O : List Int} {zss : List (List Int)} (hP : ArenaP O zss) (h : ArenaAt w va O zss) :
    Calls Tryz.prog 165 #[va] w (GivesRows w zss.length fun u => predsK zss u zss.length) := by
  have h := preds_is hP h
  rw [← hP.2.2.1] at h
  exact h

set_option maxHeartbeats 4000000 in
set_option maxRecDepth 100000 in
theorem LoopsOf_is {w : World} {va : Value} {O : List Int} {zss R : List (List Int)} {aF : Option Addr} {F : List Int} (cF : Nat) (hr : loopsL O zss F = R) (h : ArenaAt w va O zss) (hF : IntsAt w aF F) :
    Calls Tryz.prog 135 #[va, .slice aF F.length cF] w (GivesLoops w R) := by
  obtain ⟨i0, hi, hz0, hz1, hz2⟩ := info_parts' info_rows
  have HAt := Lib.hid h
  have HFi := Lib.hid hF
  have hlF := hF.len
  obtain ⟨ao, an, co, cn, A, C, rfl, h1, h2⟩ := h
  have hlO := h1.len
  have hlN := h2.len
  have HNi := Lib.hid h2
  clear h1 h2 hF
  obtain ⟨W, hW⟩ : ∃ W, W = w.alloc (.cells #[.slice ao O.length co, .slice an zss.length cn] 30) := ⟨_, rfl⟩
  have HW := Lib.hid hW
  have BW : Hid (Below w.heap.size w W) := by rw [hW]; exact below1 _ _
  have bW : Hid (Box2 W w.heap.size 30 (.slice ao O.length co) (.slice an zss.length cn)) := by rw [hW]; exact Box2.new w _ _ _
  clear hW
  cases hA : arenaB O zss with
  | false =>
    have HE : Hid (R = []) := by rw [← hr]; unfold loopsL; rw [if_neg (fun hh => by rw [arenaB_yes hh.1] at hA; cases hA)]; rfl
    have HC := Lib.hid (ArenaOk_at hA (HAt.out.below BW.out))
    clear hA hr
    go_enter Tryz.func135, Tryz.ntmps135
    go_wp2_with fail
    rw [← HW.out]
    refine HC.out.mono ?_
    rintro e w1 ⟨rfl, hb⟩
    have B1 := Lib.hid (BW.out.trans (hb.mono BW.out.size))
    clear hb
    go_wp2
    go_ret
    exact ⟨_, _, rfl, by rw [HE.out]; exact OwnRows.nil _ _ _, B1.out⟩
  | true =>
    have HP := Lib.hid (arenaB_iff.1 hA)
    have hO256 := HP.out.2.1
    have hz256 : zss.length ≤ 256 := by rw [HP.out.2.2.1]; exact hO256
    have HC := Lib.hid (ArenaOk_at hA (HAt.out.below BW.out))
    clear hA
    cases hB : setB O.length F with
    | false =>
      have HE : Hid (R = []) := by rw [← hr]; unfold loopsL; rw [if_neg (fun hh => by rw [hh.2] at hB; cases hB)]; rfl
      have HB := Lib.hid hB
      clear hr hB
      go_enter Tryz.func135, Tryz.ntmps135
      go_wp2_with fail
      rw [← HW.out]
      refine HC.out.mono ?_
      rintro e w1 ⟨rfl, hb⟩
      have B1 := Lib.hid (BW.out.trans (hb.mono BW.out.size))
      have b1 := Lib.hid (bW.out.below hb)
      clear hb
      have c0 := b1.out.cell0
      have c1 := b1.out.cell1
      go_wp2_with fail
      refine (size_is ao an O.length zss.length co cn w1 hlO).mono ?_
      rintro e w2 ⟨rfl, hw2⟩
      have B2 : Hid (Below w.heap.size w w2) := by rw [← hw2]; exact B1.out.alloc B1.out.size _
      clear hw2 c0 c1
      go_wp2_with fail
      refine (isSet_is HB.out cF w2 (HFi.out.below B2.out) (by unfold Fits; omega)).mono ?_
      rintro e w3 ⟨rfl, rfl⟩
      go_wp2
      go_ret
      exact ⟨_, _, rfl, by rw [HE.out]; exact OwnRows.nil _ _ _, B2.out⟩
    | true =>
      have HE : Hid (loopsS zss F = R) := by rw [← hr]; unfold loopsL; rw [if_pos ⟨HP.out, hB⟩]; rfl
      have HB := Lib.hid hB
      have hFl : F.length ≤ 256 := by
        have hq : (F.length : Int) ≤ (O.length : Int) := setB_len (Int.natCast_nonneg _) hB
        omega
      have HZL := Lib.hid HP.out.2.2.1
      have HIN := Lib.hid (arena_nats HP.out)
      have HFN : Hid (∀ f ∈ F, ∃ u : Nat, f = (u : Int) ∧ u < zss.length) := by rw [HP.out.2.2.1]; exact set_nats hB
      have HL : Hid (∀ u, u < zss.length → (row zss u).length ≤ 256) := fun u hu => by have := (HP.out.2.2.2 u (by rw [HP.out.2.2.1] at hu; exact hu)).2.2.1; omega
      clear hr hB
      refine (callsIn_wide (n := 4)).1 ?_
      refine callsIn_of_wp_marks Tryz.func135 rfl trivial ?_ rfl
      simp only [Tryz.ntmps135, List.size_toArray, List.length_cons, List.length_nil, Nat.reduceAdd, Nat.reduceSub, Array.replicate_succ, Array.replicate_zero, List.push_toArray, List.append_toArray, List.nil_append, List.cons_append]
      refine wpIn_wide.2 ?_
      go_wp2_with fail
      rw [← HW.out]
      refine HC.out.mono ?_
      rintro e w1 ⟨rfl, hb⟩
      have B1 := Lib.hid (BW.out.trans (hb.mono BW.out.size))
      have b1 := Lib.hid (bW.out.below hb)
      clear hb
      have c0 := b1.out.cell0
      have c1 := b1.out.cell1
      go_wp2_with fail
      refine (size_is ao an O.length zss.length co cn w1 hlO).mono ?_
      rintro e w2 ⟨rfl, hw2⟩
      have B2 : Hid (Below w.heap.size w w2) := by rw [← hw2]; exact B1.out.alloc B1.out.size _
      have b2 : Hid (Box2 w2 w.heap.size 30 (.slice ao O.length co) (.slice an zss.length cn)) := by rw [← hw2]; exact b1.out.alloc _
      clear hw2 c0 c1
      go_wp2_with fail
      refine (isSet_is HB.out cF w2 (HFi.out.below B2.out) (by unfold Fits; omega)).mono ?_
      rintro e w3 ⟨rfl, rfl⟩
      have c0 := b2.out.cell0
      have c1 := b2.out.cell1
      go_wp2_with fail
      refine (newCursor_is (an := an) (n := zss.length) cn cF (HFi.out.below B2.out) (by omega) HFN.out).mono ?_
      rintro e w4 ⟨rfl, hcu, hb, hs⟩
      have B4 := Lib.hid hb
      have C4 := Lib.hid hcu
      have S4 := Lib.hid hs
      clear hb hcu hs c0 c1
      have h2 := B2.out.size
      have hop := opens_le (openS F F.length) zss.length
      have HFO := Lib.hid (follow_is (cn := cn) HNi.out hz256 HL.out HIN.out (p := w2.heap.size + 1) (bo := w2.heap.size) (B := w2.heap.size + 2) (by omega) (by omega) (by omega) (by omega) (by omega) (zss.length + 1))
      go_wp2
      go_loopw [29] (fun i wr => ∃ k : Nat, k ≤ F.length ∧ i = .int .i64 k ∧ Hid (∃ vl, Cur wr (w2.heap.size + 1) w2.heap.size (w2.heap.size + 2) zss.length (.slice an zss.length cn) vl (dfsL (dfs zss (zss.length + 1)) (openS F F.length) (F.take k)).1 (dfsL (dfs zss (zss.length + 1)) (openS F F.length) (F.take k)).2) ∧ Hid (Below w2.heap.size w2 wr) ∧ Hid (w2.heap.size + 2 ≤ wr.heap.size)) (fun i _ => F.length - (intOf i).toNat)
      case atStart => exact ⟨0, Nat.zero_le _, rfl, ⟨_, by simpa [dfsL] using C4.out⟩, B4, by rw [S4.out]; exact Nat.le_refl _⟩
      case round =>
        obtain ⟨k, hk, rfl, HCC, HB', HZ⟩ := hrel
        have hz := HZ.out
        have hlen := dfsL_len (step := dfs zss (zss.length + 1)) (dfs_len HIN.out (zss.length + 1)) (F.take k) (fun x hx => HFN.out x (List.mem_of_mem_take hx)) (openS F F.length)
        by_cases hlt : k < F.length
        · obtain ⟨b3, off3, ha3, hc3⟩ := (HFi.out.below (B2.out.trans (HB'.out.mono h2))).cell (by omega)
          subst ha3
          have hck3 := hc3 k hlt
          obtain ⟨x, hx, hxn⟩ := HFN.out _ (nth_mem hlt)
          have HX : Hid (F.take (k + 1) = F.take k ++ [(x : Int)]) := by
            rw [List.take_add_one, List.getElem?_eq_getElem hlt, ← hx, nth_eq hlt]; rfl
          rw [hx] at hck3
          clear hx hc3
          have hi4 : (k : Int) < F.length := by omega
          obtain ⟨vl', hcc⟩ := HCC.out
          have HI := Lib.hid (HFO.out wr vl' _ _ x hxn (by omega) (by omega) (by omega) (B2.out.trans (HB'.out.mono h2)) hcc)
          clear hcc hlen
          go_wp2_with fail
          refine HI.out.mono ?_
          rintro e w6 ⟨rfl, hc6, ho6⟩
          have HN6 : Hid (∃ vl, Cur w6 (w2.heap.size + 1) w2.heap.size (w2.heap.size + 2) zss.length (.slice an zss.length cn) vl (dfsL (dfs zss (zss.length + 1)) (openS F F.length) (F.take (k + 1))).1 (dfsL (dfs zss (zss.length + 1)) (openS F F.length) (F.take (k + 1))).2) := by
            rw [HX.out, dfsL_snoc]
            simpa [Hid] using hc6
          have hsw := HB'.out.size
          have HB6 := Lib.hid (HB'.out.trans (ho6.below (B := w2.heap.size) hsw (fun b hb => by omega)))
          have HZ6 : Hid (w2.heap.size + 2 ≤ w6.heap.size) := Nat.le_trans hz ho6.size
          clear hc6 ho6 hsw
          go_wp2
          go_roundw
          case rel => exact ⟨k + 1, by omega, by go_num, HN6, HB6, HZ6⟩
          case measure => simp [intOf]; omega
        · have hkk : k = F.length := by omega
          obtain ⟨vl', hcc⟩ := HCC.out
          rw [hkk, List.take_length] at hcc hlen
          have hi4 : ¬ (k : Int) < F.length := by omega
          have hi5 : ¬ k < F.length := hlt
          obtain ⟨L, hL⟩ : ∃ L, L = aheadL zss F (zss.length + 1) := ⟨_, rfl⟩
          have hLl : L.length ≤ 256 := by rw [hL]; unfold aheadL; omega
          rw [show (dfsL (dfs zss (zss.length + 1)) (openS F F.length) F).2 = L by rw [hL]; rfl] at hcc
          have HLn : Hid (∀ x ∈ L, ∃ u : Nat, x = (u : Int) ∧ u < zss.length) := by rw [hL]; exact aheadL_nats HIN.out HFN.out (by omega)
          have HLL := Lib.hid hL
          have HCf := Lib.hid hcc
          clear hcc hkk hlen hL
          have hs4 := HB'.out.size
          have bA := Lib.hid (b2.out.below HB'.out)
          have BR := Lib.hid (B2.out.trans (HB'.out.mono h2))
          obtain ⟨w6, hw6⟩ : ∃ w6, w6 = wr.alloc (.cells #[.slice none 0 0] 28) := ⟨_, rfl⟩
          have HW6 := Lib.hid hw6
          have B6 : Hid (Below wr.heap.size wr w6) := by rw [hw6]; exact below1 _ _
          have bL : Hid (Boxed w6 wr.heap.size 28 (.slice none 0 0)) := by rw [hw6]; exact Boxed.new _ _ _
          have s6 : w6.heap.size = wr.heap.size + 1 := by rw [hw6]; simp
          have HS6 := Lib.hid s6
          clear hw6 s6
          have bA6 := Lib.hid (bA.out.below B6.out)
          have c0 := (bA.out.alloc (.cells #[.slice none 0 0] 28)).cell0
          have c1 := (bA.out.alloc (.cells #[.slice none 0 0] 28)).cell1
          go_wp2_with fail
          rw [← HW6.out]
          have hs6 := HS6.out
          have BR6 := Lib.hid (BR.out.trans (B6.out.mono BR.out.size))
          refine (preds_atK HP.out (HAt.out.below BR6.out)).mono ?_
          rintro e w7 ⟨g, V, rfl, hV, hb⟩
          obtain ⟨hrw, hgb, hrb⟩ := hV.rowsAt (by omega)
          have HRW := Lib.hid hrw
          have HGB := Lib.hid hgb
          have HRB := Lib.hid hrb
          have B7 := Lib.hid hb
          have BR7 := Lib.hid (BR6.out.trans (hb.mono BR6.out.size))
          clear hrw hgb hrb hV hb c0 c1
          go_wp2_with fail
          refine (newCursor_is (an := some ⟨g, 0, none⟩) (n := zss.length) zss.length cF (HFi.out.below BR7.out) (by omega) HFN.out).mono ?_
          rintro e w8 ⟨rfl, hcu, hb, hs⟩
          have B8 := Lib.hid hb
          have C8 := Lib.hid hcu
          have S8 := Lib.hid hs
          clear hb hcu hs
          go_wp2_with fail
          have hs7 := B7.out.size
          have hs8 := S8.out
          obtain ⟨w9, hw9⟩ : ∃ w9, w9 = w8.alloc (.cells #[.pointer (some ⟨w7.heap.size + 1, 0, none⟩)] 194) := ⟨_, rfl⟩
          have HW9 := Lib.hid hw9
          have B9 : Hid (Below w8.heap.size w8 w9) := by rw [hw9]; exact below1 _ _
          have bK : Hid (Boxed w9 w8.heap.size 194 (.pointer (some ⟨w7.heap.size + 1, 0, none⟩))) := by rw [hw9]; exact Boxed.new _ _ _
          have s9 : w9.heap.size = w8.heap.size + 1 := by rw [hw9]; simp
          have HS9 := Lib.hid s9
          clear hw9 s9
          rw [← HW9.out]
          have B79 : Hid (Below w7.heap.size w7 w9) := B8.out.trans (B9.out.mono (by omega))
          have B69 : Hid (Below w6.heap.size w6 w9) := B7.out.trans (B79.out.mono (by omega))
          have Br9 : Hid (Below wr.heap.size wr w9) := B6.out.trans (B69.out.mono (by omega))
          refine (take_is (HCf.out.below Br9.out) (by omega) (by omega)).mono ?_
          rintro e w10 ⟨rfl, -, hl10, ho10⟩
          have hfL : ∀ j, j < L.length → Fits (nth L j) := fun j hj => by
            obtain ⟨u, hu, hul⟩ := HLn.out _ (nth_mem hj)
            rw [hu]; unfold Fits; omega
          obtain ⟨aL, capL, hvL, hiL, hbL⟩ := (OwnInts.mk' hl10 (by omega) hfL).shape
          subst hvL
          have HIL := Lib.hid hiL
          have HBL := Lib.hid hbL
          have HO10 := Lib.hid ho10
          have hs10 := ho10.size
          clear hl10 hiL hbL ho10
          go_wp2_with fail
          refine (callsIn_wide.1 (backward_in Fence.wide 3 trivial rfl aL L.length capL w10)).mono ?_
          rintro e w11 ⟨rfl, hw11⟩
          have HW11 := Lib.hid hw11
          have B11 : Hid (Below w10.heap.size w10 w11) := by rw [hw11]; exact below1 _ _
          have bS : Hid (Boxed w11 w10.heap.size 27 (.slice aL L.length capL)) := by rw [hw11]; exact Boxed.new _ _ _
          have s11 : w11.heap.size = w10.heap.size + 1 := by rw [hw11]; simp
          have HS11 := Lib.hid s11
          clear hw11 s11
          go_wp2_with fail
          have hgL : ∀ b, 0 < L.length → aL = some ⟨b, 0, none⟩ → b < wr.heap.size ∧ w2.heap.size + 2 ≤ b := fun b h0 e => by
            obtain ⟨h1, h2⟩ := addr_block HCf.out.lft (b := b) (off := 0) (by simpa [addrOf] using e)
            exact ⟨h2, h1⟩
          have hTT : ∀ k, (k = w10.heap.size ∨ (0 < L.length ∧ aL = some ⟨k, 0, none⟩)) → k < w11.heap.size ∧ k ≠ wr.heap.size ∧ k ≠ w7.heap.size + 1 ∧ k ≠ w7.heap.size := fun k hk => by
            have := HS11.out
            have := HS9.out
            rcases hk with h | ⟨h0, h⟩
            · omega
            · have := hgL k h0 h; omega
          have HTT := Lib.hid hTT
          have bL5 : Hid (Boxed w11 wr.heap.size 28 (.slice none 0 0)) := boxed_below (boxed_only (boxed_below bL.out B69.out) HO10.out (by omega)) B11.out
          have bK5 : Hid (Boxed w11 (w7.heap.size + 2) 194 (.pointer (some ⟨w7.heap.size + 1, 0, none⟩))) := by
            have h := bK.out
            rw [hs8] at h
            exact boxed_below (boxed_only h HO10.out (by omega)) B11.out
          have bA5 : Hid (Box2 w11 w.heap.size 30 (.slice ao O.length co) (.slice an zss.length cn)) := (box2_only (bA.out.below Br9.out) HO10.out (by omega)).below B11.out
          have C5 : Hid (Cur w11 (w7.heap.size + 1) w7.heap.size w11.heap.size zss.length (.slice (some ⟨g, 0, none⟩) zss.length zss.length) (.slice none 0 0) (openS F F.length) []) :=
            (((C8.out.below B9.out).only HO10.out (by omega) (by omega)).below B11.out).rebase _
          have BR5 : Hid (Below w.heap.size w w11) := (BR.out.trans (Br9.out.mono BR.out.size)).trans (((HO10.out.below (B := w.heap.size) (by have := BR.out.size; have := Br9.out.size; omega) (fun b hb => by omega))).trans (B11.out.mono (by have := BR.out.size; have := Br9.out.size; omega)))
          have I0 : Hid (KI w11 wr.heap.size (w7.heap.size + 1) w7.heap.size zss.length (.slice (some ⟨g, 0, none⟩) zss.length zss.length) [] (openS F F.length) w11) := ⟨⟨_, _, bL5.out, OwnRows.nil _ _ _⟩, C5.out, Only.refl _ _⟩
          have HPR : Hid (∀ W, KI w11 wr.heap.size (w7.heap.size + 1) w7.heap.size zss.length (.slice (some ⟨g, 0, none⟩) zss.length zss.length) [] (openS F F.length) w11 → Only (fun b => b = wr.heap.size ∨ b = w7.heap.size + 1 ∨ b = w7.heap.size) w11 W → RowsAt (cutAt W w7.heap.size) (some ⟨g, 0, none⟩) (fun k => addrOf (V k)) (fun k => capOf (V k)) (predR zss zss.length)) := fun W _ hO => by
            have h10 := HO10.out
            have h11 := HS11.out
            refine HRW.out.move (P := fun b => w6.heap.size ≤ b ∧ b < w7.heap.size) (fun b hb => ?_) (fun b off e => ?_) (fun k hk b off e => ?_)
            · obtain ⟨hb1, hb2⟩ : w6.heap.size ≤ b ∧ b < w7.heap.size := hb
              have h9 := HS9.out
              rw [cutAt_block hb2, hO.block b (by omega) (by omega), B11.out.block b (by omega), h10.block b (by omega) (by omega), B79.out.block b hb2]
            · have e' : g = b := by simp at e; exact e.1
              rw [← e']; exact HGB.out
            · exact HRB.out k (by rw [rowsOf_len] at hk; exact hk) b off e
          obtain ⟨ps, hps, hpm⟩ := back_ex (n := zss.length) L.reverse (fun x hx => HLn.out x (List.mem_reverse.1 hx))
          rw [List.reverse_reverse] at hps
          have HPM := Lib.hid hpm
          have hst := backward_stops Fence.wide 3 trivial rfl (by omega) (fun k => k = w10.heap.size ∨ (0 < L.length ∧ aL = some ⟨k, 0, none⟩)) w10.heap.size zss.length capL aL L ps hps hLl w11 (.inl rfl) (by have := HS11.out; omega) bS.out.cell
            (fun hne => by
              have h0 : 0 < L.length := List.length_pos_iff.2 hne
              obtain ⟨gg, e1, e2, e3, _, _⟩ := HBL.out h0
              obtain ⟨b', off', e4, hc'⟩ := (HIL.out.below B11.out).cell h0
              have e5 := e1
              rw [e4] at e5
              obtain ⟨rfl, rfl⟩ : b' = gg ∧ off' = 0 := by simpa using e5
              exact ⟨b', 0, e4, .inr ⟨h0, e4⟩, by have := HS11.out; omega, hc'⟩)
          have HST := Lib.hid hst
          clear hst hpm hps hgL hTT
          refine (wpIn_wide (n := 4)).1 ?_
          refine wpIn_rangeFunc_ownG (n := 4) rfl (by omega) (gf := 192) (lb := #[.pointer (some ⟨w10.heap.size, 0, none⟩)]) rfl trivial (enters_of Tryz.func192 (by kernel_rfl) rfl) HST.out Stay.trans (stayK_b fun k hk => (HTT.out k hk).1) (Below.refl _ _) (fun _ => rfl)
            (fun pre W => KI w11 wr.heap.size (w7.heap.size + 1) w7.heap.size zss.length (.slice (some ⟨g, 0, none⟩) zss.length zss.length) (kosR zss (predR zss zss.length) (zss.length + 1) (openS F F.length) (valsOf pre)) (dfsL (dfs (predR zss zss.length) (zss.length + 1)) (openS F F.length) (valsOf pre)).1 W)
            (fun _ _ _ => False) (KI.own _ _) (fun _ _ _ _ _ hs _ _ => hs) I0.out
            ?act ?assign ?body ?done ?stop
          case assign =>
            intro l x W K hK
            dsimp only [encP]
            gi_wp2
            exact hK
          case body =>
            rintro l pre x W hI hlt
            have HI := Lib.hid hI
            obtain ⟨⟨uu, VV, hb8, hrw8⟩, hcur, hon⟩ := hI
            have HB8 := Lib.hid hb8
            have HR8 := Lib.hid hrw8
            have HCU := Lib.hid hcur
            have HON := Lib.hid hon
            have ck := (boxed_only bK5.out hon (by omega)).cell
            clear hb8 hrw8 hcur hon
            have hsW := HON.out.size
            have hs5 := HS11.out
            have hs59 := HS9.out
            obtain ⟨o, ho⟩ : ∃ o, o = (dfsL (dfs (predR zss zss.length) (zss.length + 1)) (openS F F.length) (valsOf pre)).1 := ⟨_, rfl⟩
            obtain ⟨v, hv⟩ : ∃ v : Nat, v = x.2.val := ⟨_, rfl⟩
            have hvn : v < zss.length := by rw [hv]; exact x.2.isLt
            have HO := Lib.hid ho
            have HV := Lib.hid hv
            rw [← ho] at HCU HI
            have hoo := opens_le o zss.length
            have hpl : (predR zss zss.length).length = zss.length := rowsOf_len _ _
            have HWP := Lib.hid (dfs_walk (zss := predR zss zss.length) predR_predP.nat (zss.length + 1) o v (by omega) (by rw [hpl]; omega))
            have HFW := Lib.hid (follow_at (cn := zss.length) hpl (HPR.out W I0.out HON.out) (by omega) (predR_short (by omega)) predR_predP.nat (p := w7.heap.size + 1) (bo := w7.heap.size) (B := W.heap.size) (by rw [cutAt_size (by omega)]; omega) (by rw [cutAt_size (by omega)]; omega) (by omega) (by omega) (by omega) (zss.length + 1) W (.slice none 0 0) o v hvn (by omega) (Nat.le_refl _) (cutAt_below (by omega)) (HCU.out.rebase _))
            clear ho hpl hoo
            gi_wp2_with fail
            refine ⟨trivial, ?_⟩
            rw [← hv]
            refine (CallsIn.inRound l (callsIn_wide.2 HFW.out)).mono ?_
            rintro e Wa ⟨rfl, ⟨vp, hca⟩, hoa⟩
            have HCA := Lib.hid hca
            have HOA := Lib.hid hoa
            have hsa := hoa.size
            have cka : Wa.cell? ⟨w7.heap.size + 2, 0, none⟩ = some (.pointer (some ⟨w7.heap.size + 1, 0, none⟩)) := (boxed_only (boxed_only bK5.out HON.out (by omega)) hoa (by omega)).cell
            clear hca hoa ck
            gi_wp2_with fail
            refine ⟨trivial, ?_⟩
            refine (CallsIn.inRound l (callsIn_wide.2 (take_is HCA.out (by omega) (by omega)))).mono ?_
            rintro e Wb ⟨rfl, hcb, hlb, hob⟩
            have hsb := hob.size
            obtain ⟨P, hP⟩ : ∃ P, P = (dfs (predR zss zss.length) (zss.length + 1) o v).2 := ⟨_, rfl⟩
            obtain ⟨o', ho'⟩ : ∃ o', o' = (dfs (predR zss zss.length) (zss.length + 1) o v).1 := ⟨_, rfl⟩
            have HNX : Hid ((dfsL (dfs (predR zss zss.length) (zss.length + 1)) (openS F F.length) (valsOf (pre ++ [x]))).1 = o') := by
              rw [ho', valsOf_snoc, dfsL_snoc, ← hv, ← HO.out, Int.toNat_natCast]; rfl
            have HRX : Hid (kosR zss (predR zss zss.length) (zss.length + 1) (openS F F.length) (valsOf (pre ++ [x])) = kosR zss (predR zss zss.length) (zss.length + 1) (openS F F.length) (valsOf pre) ++ (if kosC zss (v : Int) P then [P.mergeSort fun x y => decide (x ≤ y)] else [])) := by
              rw [hP, valsOf_snoc, kosR_snoc, ← hv, ← HO.out, Int.toNat_natCast]; rfl
            rw [← hP, ← ho'] at HCA
            rw [← ho'] at hcb
            rw [← hP] at hlb
            have hPn : ∀ y ∈ P, ∃ u : Nat, y = (u : Int) ∧ u < zss.length := by
              have h := HWP.out.nat
              rw [← hP, show (predR zss zss.length).length = zss.length from rowsOf_len _ _] at h
              exact h
            have HPN := Lib.hid hPn
            have hPl : P.length ≤ 256 := by
              have h := dfs_len (zss := predR zss zss.length) predR_predP.nat (zss.length + 1) o v (by have h : (predR zss zss.length).length = zss.length := rowsOf_len _ _; omega)
              have h2 := opens_le o (predR zss zss.length).length
              rw [← hP] at h
              rw [show (predR zss zss.length).length = zss.length from rowsOf_len _ _] at h h2
              omega
            obtain ⟨RR, hRR⟩ : ∃ RR, RR = kosR zss (predR zss zss.length) (zss.length + 1) (openS F F.length) (valsOf pre) := ⟨_, rfl⟩
            have hRl : RR.length ≤ 256 := by
              have h := kosR_len zss (predR zss zss.length) (zss.length + 1) (valsOf pre) (openS F F.length)
              rw [← hRR] at h
              simp only [valsOf, List.length_map] at h
              omega
            rw [← hRR] at HI HR8 HRX
            have HNO := Lib.hid (KI.no (T := fun k => k = w10.heap.size ∨ (0 < L.length ∧ aL = some ⟨k, 0, none⟩)) HI.out (by omega) (by omega) (by omega) (by omega) (by omega) HTT.out HCA.out HOA.out hcb hob)
            have BRb : Hid (Below w.heap.size w Wb) := BR5.out.trans ((HNO.out.1.only.below (B := w.heap.size) BR5.out.size (fun b hb => by have := BR.out.size; omega)))
            have HCB := Lib.hid hcb
            have HLB := Lib.hid hlb
            have HOB := Lib.hid hob
            have bAb := Lib.hid (box2_only bA5.out HNO.out.1.only (by have := BR.out.size; omega))
            clear hcb hlb hob hP ho' hRR hPn cka
            obtain ⟨bn, offn, han, hcn⟩ := (HNi.out.below BRb.out).cell (by omega)
            have hnv := hcn v hvn
            have HIv := Lib.hid ((HNi.out.below BRb.out).rows v hvn)
            subst han
            clear hcn
            have hfP : ∀ j, j < P.length → Fits (nth P j) := fun j hj => by
              obtain ⟨u, hu, hul⟩ := HPN.out _ (nth_mem hj)
              rw [hu]; unfold Fits; omega
            obtain ⟨aP, capP, hvP, -, -⟩ := (OwnInts.mk' HLB.out (by omega) hfP).shape
            subst hvP
            have HFP := Lib.hid hfP
            clear hfP
            have cA := bAb.out.cell1
            have hi6 : (v : Int) < zss.length := by omega
            by_cases h1 : 1 < P.length
            · have g1 : (1 : Int) < P.length := by omega
              have hcc : kosC zss (v : Int) P = true := by simp [kosC, h1]
              gi_wp2_with fail
              case h_1.isTrue => rename_i hh _; simp [undef] at hh
              case h_1.isFalse => rename_i hh _; simp [undef] at hh
              case h_2 =>
                refine ⟨trivial, ?_⟩
                gi_wp2_with fail
                refine ⟨trivial, ?_⟩
                refine (CallsIn.inRound l (callsIn_wide.2 (sort_own HLB.out (by omega)))).mono ?_
                rintro e Wc ⟨rfl, hlc, hoc⟩
                obtain ⟨ss, hss⟩ : ∃ ss, ss = P.mergeSort fun x y => decide (x ≤ y) := ⟨_, rfl⟩
                have hsl : ss.length = P.length := by rw [hss, List.length_mergeSort]
                have hfS : ∀ j, j < ss.length → Fits (nth ss j) := fun j hj => by
                  have hm : nth ss j ∈ P := by
                    have h := nth_mem hj
                    rw [hss] at h
                    rw [hss]; exact List.mem_mergeSort.1 h
                  obtain ⟨u, hu, hul⟩ := HPN.out _ hm
                  rw [hu]; unfold Fits; omega
                rw [← hss] at hlc HRX
                have HFS := Lib.hid hfS
                have HSL := Lib.hid hsl
                have HLC : Hid (Wc.ownsRow W.heap.size 2 1 (.slice aP P.length capP) ss.length (ss.map (Value.int .i64))) := by unfold Hid; rw [hsl]; exact hlc
                have HOC := Lib.hid hoc
                have hnewP : ∀ b, (Value.slice aP P.length capP).ownBlock = some b → W.heap.size ≤ b := fun b hb => (HLB.out.lt b hb).1
                have hkeep : ∀ b, b < W.heap.size → b ≠ w7.heap.size + 1 → b ≠ w7.heap.size → Wc.heap[b]? = W.heap[b]? := fun b hb n1 n2 => by
                  rw [hoc.block b (by omega) (fun e => by have := hnewP b e; omega), HOB.out.block b (by omega) n1, HOA.out.block b hb (by omega)]
                have hsc := hoc.size
                have hWc : Only (fun b => b = w7.heap.size + 1 ∨ b = w7.heap.size) W Wc := ⟨hoc.os.trans (HOB.out.os.trans HOA.out.os), hoc.tape.trans (HOB.out.tape.trans HOA.out.tape), hoc.output.trans (HOB.out.output.trans HOA.out.output), by omega, fun b hb hn => hkeep b hb (fun e => hn (.inl e)) (fun e => hn (.inr e))⟩
                have B8c := Lib.hid (boxed_only HB8.out hWc (by omega))
                have R8c := Lib.hid (HR8.out.only hWc (fun b hb => by have := (HR8.out.own.lt b hb).1; omega) (fun q hq b hb => by have := ((HR8.out.rows q hq).own.lt b hb).1; omega))
                have hub : ∀ b, uu.ownBlock = some b → w11.heap.size ≤ b := fun b hb => (HR8.out.own.lt b hb).1
                have HUB := Lib.hid hub
                have c8 := B8c.out.cell
                have c8f := B8c.out.frozen
                clear hss hsl hfS hlc hoc hnewP hkeep hWc hub cA hnv
                gi_wp2_with (gi_at_builtin; refine wpListIn_append_own _ rfl _ _ 28 rfl w11.heap.size 27 i0 (.slice none 0 0) 1 24 Tryz.underlying28 hi hz0 hz1 hz2 rfl (by decide) _ _ _ rfl (R8c.out.own.alloc _) ⟨Wc.heap.size, 0, none⟩ 1 1 [.slice aP P.length capP] rfl rfl ?c1 ?c2 ?c3 ?c4 ?c5 ?_)
                case c1 => exact cell_one_new _ _ _
                case c2 => simp [Value.oneCell']
                case c3 => unfold maxLen; omega
                case c4 => omega
                case c5 => simp; omega
                intro v' w1 hown hgrow _
                obtain ⟨g', cap', rfl⟩ := ownsRow_succ hown
                rw [← HS11.out] at hown
                have h81 : Boxed w1 wr.heap.size 28 uu := boxed_only (B8c.out.alloc _) (Only.of_grown hgrow) (fun e => by have := HUB.out _ e; omega)
                have c81 := h81.cell
                have c81f := h81.frozen
                have hy := Lib.hid (KI.yes (T := fun k => k = w10.heap.size ∨ (0 < L.length ∧ aL = some ⟨k, 0, none⟩)) HI.out (by omega) (by omega) (by omega) (by omega) (by omega) HTT.out HB8.out HR8.out HOA.out HCB.out HOB.out HLB.out HLC.out HOC.out HFS.out (by have := HSL.out; omega) (by omega) hown hgrow)
                clear hown hgrow h81 c8 c8f
                gi_wp2_with fail
                refine ⟨hy.out.2.1.from _, hy.out.2.2, ?_⟩
                show KI _ _ _ _ _ _ (kosR _ _ _ _ (valsOf (pre ++ [x]))) _ _
                rw [HRX.out, HNX.out, if_pos hcc]
                exact hy.out.1
            · have g1 : ¬ (1 : Int) < P.length := by omega
              by_cases h2 : P.length = 1
              · have g2 : ((P.length : Int) == 1) = true := by simp; omega
                obtain ⟨r, hr⟩ : ∃ r, hasB (row zss v) (v : Int) = r := ⟨_, rfl⟩
                have hkc : kosC zss (v : Int) P = r := by unfold kosC; rw [Int.toNat_natCast, hr, h2]; simp
                have HC37 := hr
                have hvx := hvn
                rw [HV.out] at HC37 hnv hi6 hvx
                have HCO := Lib.hid (leads_is HC37 hvx (HAt.out.below BRb.out))
                have cA0 := bAb.out.cell0
                clear h2 HC37 hr hvx
                gi_wp2_with fail
                refine ⟨trivial, ?_⟩
                refine (CallsIn.inRound l (callsIn_wide.2 HCO.out)).mono ?_
                rintro e Wd ⟨rfl, hbd⟩
                have hsd := hbd.size
                have hCd := HCB.out.below hbd
                have hLd := ownsRow_only HLB.out (S := fun _ => False) (Only.of_below hbd) (fun _ _ h => h)
                have hOd := HOB.out.trans (Only.of_below hbd)
                have hNd := Lib.hid (KI.no (T := fun k => k = w10.heap.size ∨ (0 < L.length ∧ aL = some ⟨k, 0, none⟩)) HI.out (by omega) (by omega) (by omega) (by omega) (by omega) HTT.out HCA.out HOA.out hCd hOd)
                clear HCB HLB HOB HNO HCO cA0 hbd
                have HCB := Lib.hid hCd
                have HLB := Lib.hid hLd
                have HOB := Lib.hid hOd
                have HNO := hNd
                clear hCd hLd hOd hNd
                cases r with
                | true =>
                  have hcc : kosC zss (v : Int) P = true := hkc
                  gi_wp2_with fail
                  refine ⟨trivial, ?_⟩
                  refine (CallsIn.inRound l (callsIn_wide.2 (sort_own HLB.out (by omega)))).mono ?_
                  rintro e Wc ⟨rfl, hlc, hoc⟩
                  obtain ⟨ss, hss⟩ : ∃ ss, ss = P.mergeSort fun x y => decide (x ≤ y) := ⟨_, rfl⟩
                  have hsl : ss.length = P.length := by rw [hss, List.length_mergeSort]
                  have hfS : ∀ j, j < ss.length → Fits (nth ss j) := fun j hj => by
                    have hm : nth ss j ∈ P := by
                      have h := nth_mem hj
                      rw [hss] at h
                      rw [hss]; exact List.mem_mergeSort.1 h
                    obtain ⟨u, hu, hul⟩ := HPN.out _ hm
                    rw [hu]; unfold Fits; omega
                  rw [← hss] at hlc HRX
                  have HFS := Lib.hid hfS
                  have HSL := Lib.hid hsl
                  have HLC : Hid (Wc.ownsRow W.heap.size 2 1 (.slice aP P.length capP) ss.length (ss.map (Value.int .i64))) := by unfold Hid; rw [hsl]; exact hlc
                  have HOC := Lib.hid hoc
                  have hnewP : ∀ b, (Value.slice aP P.length capP).ownBlock = some b → W.heap.size ≤ b := fun b hb => (HLB.out.lt b hb).1
                  have hkeep : ∀ b, b < W.heap.size → b ≠ w7.heap.size + 1 → b ≠ w7.heap.size → Wc.heap[b]? = W.heap[b]? := fun b hb n1 n2 => by
                    rw [hoc.block b (by omega) (fun e => by have := hnewP b e; omega), HOB.out.block b (by omega) n1, HOA.out.block b hb (by omega)]
                  have hsc := hoc.size
                  have hWc : Only (fun b => b = w7.heap.size + 1 ∨ b = w7.heap.size) W Wc := ⟨hoc.os.trans (HOB.out.os.trans HOA.out.os), hoc.tape.trans (HOB.out.tape.trans HOA.out.tape), hoc.output.trans (HOB.out.output.trans HOA.out.output), by omega, fun b hb hn => hkeep b hb (fun e => hn (.inl e)) (fun e => hn (.inr e))⟩
                  have B8c := Lib.hid (boxed_only HB8.out hWc (by omega))
                  have R8c := Lib.hid (HR8.out.only hWc (fun b hb => by have := (HR8.out.own.lt b hb).1; omega) (fun q hq b hb => by have := ((HR8.out.rows q hq).own.lt b hb).1; omega))
                  have hub : ∀ b, uu.ownBlock = some b → w11.heap.size ≤ b := fun b hb => (HR8.out.own.lt b hb).1
                  have HUB := Lib.hid hub
                  have c8 := B8c.out.cell
                  have c8f := B8c.out.frozen
                  clear hss hsl hfS hlc hoc hnewP hkeep hWc hub cA hnv
                  gi_wp2_with (gi_at_builtin; refine wpListIn_append_own _ rfl _ _ 28 rfl w11.heap.size 27 i0 (.slice none 0 0) 1 24 Tryz.underlying28 hi hz0 hz1 hz2 rfl (by decide) _ _ _ rfl (R8c.out.own.alloc _) ⟨Wc.heap.size, 0, none⟩ 1 1 [.slice aP P.length capP] rfl rfl ?c1 ?c2 ?c3 ?c4 ?c5 ?_)
                  case c1 => exact cell_one_new _ _ _
                  case c2 => simp [Value.oneCell']
                  case c3 => unfold maxLen; omega
                  case c4 => omega
                  case c5 => simp; omega
                  intro v' w1 hown hgrow _
                  obtain ⟨g', cap', rfl⟩ := ownsRow_succ hown
                  rw [← HS11.out] at hown
                  have h81 : Boxed w1 wr.heap.size 28 uu := boxed_only (B8c.out.alloc _) (Only.of_grown hgrow) (fun e => by have := HUB.out _ e; omega)
                  have c81 := h81.cell
                  have c81f := h81.frozen
                  have hy := Lib.hid (KI.yes (T := fun k => k = w10.heap.size ∨ (0 < L.length ∧ aL = some ⟨k, 0, none⟩)) HI.out (by omega) (by omega) (by omega) (by omega) (by omega) HTT.out HB8.out HR8.out HOA.out HCB.out HOB.out HLB.out HLC.out HOC.out HFS.out (by have := HSL.out; omega) (by omega) hown hgrow)
                  clear hown hgrow h81 c8 c8f
                  gi_wp2_with fail
                  refine ⟨hy.out.2.1.from _, hy.out.2.2, ?_⟩
                  show KI _ _ _ _ _ _ (kosR _ _ _ _ (valsOf (pre ++ [x]))) _ _
                  rw [HRX.out, HNX.out, if_pos hcc]
                  exact hy.out.1
                | false =>
                  have hcc : kosC zss (v : Int) P = false := hkc
                  gi_wp2
                  refine ⟨HNO.out.2.1.from _, HNO.out.2.2, ?_⟩
                  show KI _ _ _ _ _ _ (kosR _ _ _ _ (valsOf (pre ++ [x]))) _ Wd
                  rw [HRX.out, HNX.out, if_neg (by rw [hcc]; simp), List.append_nil]
                  exact HNO.out.1
              · have g2 : ((P.length : Int) == 1) = false := by simp; omega
                have hcc : kosC zss (v : Int) P = false := by simp [kosC]; omega
                gi_wp2_with fail
                refine ⟨trivial, ?_⟩
                gi_wp2
                refine ⟨HNO.out.2.1.from _, HNO.out.2.2, ?_⟩
                show KI _ _ _ _ _ _ (kosR _ _ _ _ (valsOf (pre ++ [x]))) _ Wb
                rw [HRX.out, HNX.out, if_neg (by rw [hcc]; simp), List.append_nil]
                exact HNO.out.1
          case done =>
            rintro D ys Wd hD rfl hI hK
            obtain ⟨⟨uu, VV, hb8, hrw8⟩, -, hon⟩ := hI
            rw [show valsOf ys = L.reverse from HPM.out] at hrw8
            have hvl := kosR_len zss (predR zss zss.length) (zss.length + 1) L.reverse (openS F F.length)
            rw [List.length_reverse] at hvl
            have HS := Lib.hid (sortRows_is (hrw8.base (B' := w11.heap.size) (Nat.le_refl _)) (kosR_ne zss (predR zss zss.length) (zss.length + 1) L.reverse (openS F F.length)) (by omega))
            have hub : ∀ b, uu.ownBlock = some b → w11.heap.size ≤ b := fun b hb => (hrw8.own.lt b hb).1
            have hcl : ∀ b, uu.ownBlock = some b → ∃ o : Obj, Wd.heap[b]? = some o ∧ o.isCells = true := fun b hb => ownsRow_cells hrw8.own hb
            have HUB := Lib.hid hub
            have HCL := Lib.hid hcl
            have HB8 := Lib.hid hb8
            have HON := Lib.hid hon
            have HK := Lib.hid hK
            have hsd := hon.size
            have hs11 := HS11.out
            have hs9 := HS9.out
            have c8 := hb8.cell
            clear hb8 hrw8 hon hub hcl hvl hK
            go_wp2_with fail
            refine HS.out.mono ?_
            rintro e We ⟨rfl, hO, V', R', hR', hp, hs⟩
            have hDk : We.heap[D]? = some (.deferred (some [])) := (hO.block D (Array.getElem?_eq_some_iff.1 HK.out).1 (fun e => by
              have := isCells_of (HCL.out D e) HK.out
              cases this)).trans HK.out
            have c8e := (boxed_only HB8.out hO (fun e => by have := HUB.out _ e; omega)).cell
            have hRR : R' = R := by
              rw [HLL.out] at hp
              rw [← HE.out]
              exact kos_all HIN.out (rises_pairwise.1 (rises_of HB.out)) (by rw [HZL.out]; exact HB.out) (by omega) hp (hs.imp fun h => by omega)
            subst hRR
            have HRe := Lib.hid hR'
            have HOe := Lib.hid hO
            have HDk := Lib.hid hDk
            clear hp hs hR' hO hDk c8
            go_wp2_with fail
            refine ⟨by simp, .inl ⟨_, _, rfl, run_takeDeferred HDk.out, ?_⟩⟩
            have hg := grownBy_putObj' We D (.deferred none)
            have hoD := Only.of_grown hg
            have hnD : ∀ b, (∃ o : Obj, We.heap[b]? = some o ∧ o.isCells = true) → ¬ some D = some b := fun b hc e => by
              cases e
              have := isCells_of hc HDk.out
              cases this
            have hbe : Below w.heap.size w We := (BR5.out.trans (HON.out.below (B := w.heap.size) BR5.out.size (fun b hb => by have := BR.out.size; omega))).trans (HOe.out.below (B := w.heap.size) (by have := BR5.out.size; omega) (fun b hb => by have := HUB.out b hb; have := BR5.out.size; omega))
            refine ⟨_, results_tmp rfl _ _ _, uu, V', rfl, ((HRe.out.base (B' := w.heap.size) BR5.out.size).only hoD (fun b hb => hnD b (ownsRow_cells HRe.out.own hb)) (fun k hk b hb => hnD b (ownsRow_cells (HRe.out.rows k hk).own hb))).retop, hbe.trans (hoD.below (B := w.heap.size) hbe.size (fun b hb => by cases hb; have := BR5.out.size; omega))⟩
          case stop =>
            rintro D c pre W _ _ h _
            exact h.elim
end

end Go.Proofs.YtokcinhopajniaaGreatDoor
