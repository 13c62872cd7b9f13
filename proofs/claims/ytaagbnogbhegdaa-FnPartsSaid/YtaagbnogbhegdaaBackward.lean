/-
  Contracts: slices.Backward over a set's slice, an iterator (a range over a function).
-/
import Derived.RangeFuncBox
import Derived.RangeFuncLeaves
import Derived.RangeFuncNested
import Derived.RangeFuncBound
import Derived.RangeFuncCalls
import Derived.Shelf.Abstract
import Derived.Shelf.RegionOpen
import Derived.WalkKit
import Derived.OwnWalkIn
import Derived.TacticsInMore
import Derived.LoopNIn
import Derived.LoopIn
import Derived.Test.YtaagbnogbhegdaaWalks1
namespace Go.Proofs.Ytaagbnogbhegdaa
open Go.RowKit Go.Shelf

attribute [local go_sem] Oper.semAt_some

/-- The pairs that slices.Backward hands on: the places from the last one down, and what stands there. -/
structure BackP {n : Nat} (ps : List (Nat × Fin n)) (zs : List Int) : Prop where
  len : ps.length = zs.length
  at_ : ∀ k (h : k < ps.length), (ps[k]).1 + 1 + k = zs.length ∧ (((ps[k]).2.val : Nat) : Int) = nth zs (ps[k]).1

/-- The blocks of T lie as they lay. -/
def Stay (T : Nat → Prop) (W W' : World) : Prop := ∀ k, T k → W'.heap[k]? = W.heap[k]?
theorem Stay.refl (T : Nat → Prop) (W : World) : Stay T W W := fun _ _ => rfl
theorem Stay.trans {T : Nat → Prop} {A B C : World} (h : Stay T A B) (k : Stay T B C) : Stay T A C := fun i hi => (k i hi).trans (h i hi)
theorem Stay.cell {T : Nat → Prop} {W W' : World} (h : Stay T W W') {p : Addr} (hp : T p.block) : W'.cell? p = W.cell? p := World.cell?_of_block (h _ hp)
theorem stayK_b {T : Nat → Prop} {w : World} (hT : ∀ k, T k → k < w.heap.size) (W : World) (l : Nat) (o o' : Obj) (hl : w.heap.size ≤ l) (_ : W.heap[l]? = some o) (_ : o.isCells = false) (_ : o.isWalk = false) : Stay T W (W.putObj l o') :=
  fun k hk => World.putObj_heap_other (by have := hT k hk; omega)

def encP {n : Nat} (x : Nat × Fin n) : Array Value := #[.int .i64 (x.1 : Int), .int .i64 ((x.2.val : Nat) : Int)]

set_option maxRecDepth 100000 in
set_option maxHeartbeats 2000000 in
theorem backward1_in (F : Fence) (m : Nat) (hF : F.fn 119) (hro : F.round = none) (hm : 1 ≤ m) (T : Nat → Prop) (l Bs b off cap n : Nat) (zs : List Int) (ps : List (Nat × Fin n)) (hP : BackP ps zs) (hreach : zs.length ≤ 256) (hb : T b) (J Jx : List (Nat × Fin n) → World → Prop)
    (hY : ∀ pre x W, J pre W → pre.length < zs.length → YieldAt F (m - 1) Try.prog l (encP x) W fun e W' =>
      (e = .returned (.bool true) ∧ J (pre ++ [x]) W' ∧ Stay T W W') ∨ (e = .returned (.bool false) ∧ Jx (pre ++ [x]) W'))
    (W : World) (hBs : W.cell? ⟨Bs, 0, none⟩ = some (.slice (some ⟨b, off, none⟩) zs.length cap)) (hc : ∀ j, j < zs.length → W.cell? ⟨b, off + j, none⟩ = some (.int .i64 (nth zs j))) (hBn : T Bs) (h0 : J [] W) :
    CallsIn F m Try.prog 119 #[.func (.yield l) #[] #[], .pointer (some ⟨Bs, 0, none⟩)] W fun e W' => (∃ v, e = .returned v) ∧
      ((∃ ys, ys = ps ∧ J ys W') ∨ (∃ pre, (∃ k, k ≤ zs.length ∧ pre = ps.take k) ∧ Jx pre W')) := by
  refine callsIn_of_wp Try.func119 rfl hF ?_ hro
  simp only [Try.ntmps119, List.size_toArray, List.length_cons, List.length_nil, Nat.reduceAdd, Nat.reduceSub, Array.replicate_succ, Array.replicate_zero, List.push_toArray, List.append_toArray, List.nil_append, List.cons_append]
  gi_wp2
  gi_loopw [3] (fun i wr => ∃ k q : Nat, k + q = zs.length ∧ i = .int .i64 ((q : Int) - 1) ∧ J (ps.take k) wr ∧ Stay T W wr)
    (fun i _ => (intOf i + 1).toNat)
  case atStart => exact ⟨0, zs.length, by omega, by go_num, by simpa using h0, Stay.refl _ _⟩
  case round =>
    obtain ⟨k, q, hk, rfl, hJs, hnx⟩ := hrel
    have hBr : wr.cell? ⟨Bs, 0, none⟩ = some (.slice (some ⟨b, off, none⟩) zs.length cap) := (hnx.cell (p := ⟨Bs, 0, none⟩) hBn).trans hBs
    cases q with
    | zero =>
      obtain rfl : k = zs.length := by omega
      rw [show ((0 : Nat) : Int) - 1 = -1 from rfl]
      gi_wp2
      go_end0
      exact ⟨⟨_, rfl⟩, .inl ⟨_, by rw [← hP.len, List.take_length], hJs⟩⟩
    | succ j =>
      rw [show (((j + 1 : Nat) : Int) - 1) = (j : Int) by omega]
      have hcx : wr.cell? ⟨b, off + j, none⟩ = some (.int .i64 (nth zs j)) := (hnx.cell (p := ⟨b, off + j, none⟩) hb).trans (hc j (by omega))
      have hkl : k < ps.length := by rw [hP.len]; omega
      obtain ⟨p1, p2⟩ := hP.at_ k hkl
      have e1 : (ps[k]).1 = j := by omega
      rw [e1] at p2
      have hY1 := hY _ (ps[k]) wr hJs (by rw [List.length_take]; omega)
      unfold encP at hY1
      rw [e1, p2] at hY1
      have htk : ps.take (k + 1) = ps.take k ++ [ps[k]] := by rw [List.take_add_one, List.getElem?_eq_getElem hkl]; rfl
      rw [← htk] at hY1
      have HT := Lib.hid htk
      clear p1 p2 e1 htk
      obtain ⟨fn, tmps, assign, body, hy, hR⟩ := hY1
      have hj : (j : Int) < zs.length := by omega
      gi_wp2
      refine hR.mono ?_
      rintro e W3 (⟨rfl, hJ3, hk3⟩ | ⟨rfl, hJx3⟩)
      · gi_wp2
        go_roundw
        case rel => exact ⟨k + 1, j, by omega, by first | rfl | go_num, hJ3, hnx.trans hk3⟩
        case measure => simp [intOf]
      · gi_wp2
        refine bodyPost_ret (results_none rfl _ _ _) rfl ?_
        exact ⟨⟨_, rfl⟩, .inr ⟨_, ⟨k + 1, by omega, rfl⟩, hJx3⟩⟩

set_option maxRecDepth 100000 in
set_option maxHeartbeats 1000000 in
theorem backward1_nil_in (F : Fence) (m : Nat) (hF : F.fn 119) (hro : F.round = none) (l Bs n : Nat) (J : List (Nat × Fin n) → World → Prop) (W : World) (a : Option Addr) (cap : Nat) (hBs : W.cell? ⟨Bs, 0, none⟩ = some (.slice a 0 cap)) (h0 : J [] W) :
    CallsIn F m Try.prog 119 #[.func (.yield l) #[] #[], .pointer (some ⟨Bs, 0, none⟩)] W fun e W' => (∃ v, e = .returned v) ∧ J [] W' := by
  refine callsIn_of_wp Try.func119 rfl hF ?_ hro
  simp only [Try.ntmps119, List.size_toArray, List.length_cons, List.length_nil, Nat.reduceAdd, Nat.reduceSub, Array.replicate_succ, Array.replicate_zero, List.push_toArray, List.append_toArray, List.nil_append, List.cons_append]
  gi_wp2
  gi_loopw [3] (fun i wr => i = .int .i64 (-1) ∧ J [] wr) (fun _ _ => 0)
  case atStart => exact ⟨by first | rfl | go_num, h0⟩
  case round =>
    obtain ⟨rfl, hJs⟩ := hrel
    gi_wp2
    go_end0
    exact ⟨⟨_, rfl⟩, hJs⟩

set_option maxHeartbeats 1000000 in
theorem backward_in (F : Fence) (m : Nat) (hF : F.fn 74) (hro : F.round = none) (a : Option Addr) (len cap : Nat) (w : World) :
    CallsIn F m Try.prog 74 #[.slice a len cap] w fun e w' => e = .returned (.func (.func 119) #[] #[.pointer (some ⟨w.heap.size, 0, none⟩)]) ∧ w' = w.alloc (.cells #[.slice a len cap] 24) := by
  refine callsIn_of_wp Try.func74 rfl hF ?_ hro
  simp only [Try.ntmps74, List.size_toArray, List.length_cons, List.length_nil, Nat.reduceAdd, Nat.reduceSub, Array.replicate_succ, Array.replicate_zero, List.push_toArray, List.append_toArray, List.nil_append, List.cons_append]
  gi_wp2
  go_ret
  exact ⟨rfl, rfl⟩

/-- What slices.Backward hands back goes over the pairs, from the last one down. -/
theorem backward_stops (F : Fence) (m : Nat) (hF : F.fn 119) (hro : F.round = none) (hm : 1 ≤ m) (T : Nat → Prop) (Bs n cap : Nat) (a : Option Addr) (zs : List Int) (ps : List (Nat × Fin n)) (hP : BackP ps zs) (hreach : zs.length ≤ 256) (w : World) (hBs : T Bs) (hBw : Bs < w.heap.size)
    (hc : w.cell? ⟨Bs, 0, none⟩ = some (.slice a zs.length cap)) (hI : zs ≠ [] → ∃ b off, a = some ⟨b, off, none⟩ ∧ T b ∧ b < w.heap.size ∧ ∀ j, j < zs.length → w.cell? ⟨b, off + j, none⟩ = some (.int .i64 (nth zs j))) :
    SeqStopsK F m Try.prog 119 #[.pointer (some ⟨Bs, 0, none⟩)] encP (Stay T) (fun ys => ys = ps)
      (fun pre => ∃ k, k ≤ zs.length ∧ pre = ps.take k) zs.length w := fun l J Jx W hW _ _ hY h0 => by
  have hc' := (hW.cell (p := ⟨Bs, 0, none⟩) hBw).trans hc
  by_cases hz : zs = []
  · subst hz
    have hpn : ps = [] := List.length_eq_zero_iff.1 hP.len
    subst hpn
    exact (backward1_nil_in F m hF hro l Bs n J W a cap hc' h0).mono fun e W' ⟨he, hj⟩ => ⟨he, .inl ⟨_, rfl, hj⟩⟩
  · obtain ⟨b, off, rfl, hb, hbw, hcs⟩ := hI hz
    exact backward1_in F m hF hro hm T l Bs b off cap n zs ps hP hreach hb J Jx hY W hc' (fun j hj => (hW.cell (p := ⟨b, off + j, none⟩) hbw).trans (hcs j hj)) hBs h0

end Go.Proofs.Ytaagbnogbhegdaa
