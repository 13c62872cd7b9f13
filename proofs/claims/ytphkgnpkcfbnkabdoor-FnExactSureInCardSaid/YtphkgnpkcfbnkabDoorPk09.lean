/-
  Several texts in one: Mask, Memo, Iter, Region, Members, Across, PlayMath, Lasso.
-/
import Derived.LoopN
import Derived.Laws.Rows
import Derived.Test.YtphkgnpkcfbnkabDoorProg
import Derived.WideKeyRuns
import Derived.DeepKeys3
import Derived.Carry
import Derived.KernelRfl
import Derived.IntWalk
import Derived.RangeFuncBox
import Derived.RangeFuncLeaves
import Derived.RangeFuncNested
import Derived.RangeFuncBound
import Derived.RangeFuncCalls
import Derived.RangeFuncWrites
import Derived.Shelf.Abstract
import Derived.Shelf.RegionOpen
import Derived.WalkKit
import Derived.OwnWalkIn
import Derived.TacticsInMore
import Derived.LoopNIn
import Derived.LoopIn
import Derived.OrdersHeld
import Derived.OrdersIn
import Derived.Deep.RegionHeld3
import Derived.Test.YtphkgnpkcfbnkabDoorPk00
import Derived.Test.YtphkgnpkcfbnkabDoorBase1
import Derived.Test.YtphkgnpkcfbnkabDoorPk03
import Derived.Test.YtphkgnpkcfbnkabDoorPk05
import Derived.Test.YtphkgnpkcfbnkabDoorPk07
namespace Go.Proofs.YtphkgnpkcfbnkabDoor
section
open Go.RowKit

/-- The mask of a set, as a value. -/
abbrev maskV (I : Nat → Bool) : Value := .agg #[.int .u64 (maskW I 0), .int .u64 (maskW I 1), .int .u64 (maskW I 2), .int .u64 (maskW I 3)]
/-- A variable that holds a mask. -/
def MaskAt (w : World) (g : Nat) (I : Nat → Bool) : Prop := w.heap[g]? = some (.cells #[.int .u64 (maskW I 0), .int .u64 (maskW I 1), .int .u64 (maskW I 2), .int .u64 (maskW I 3)] 67 (0, 0))

section
variable {w w' : World} {g : Nat} {I J : Nat → Bool}
theorem MaskAt.lt (h : MaskAt w g I) : g < w.heap.size := (Array.getElem?_eq_some_iff.1 h).1
theorem MaskAt.below (h : MaskAt w g I) (hb : Below w.heap.size w w') : MaskAt w' g I := (hb.block g h.lt).trans h
theorem MaskAt.only {S : Nat → Prop} (h : MaskAt w g I) (hk : Only S w w') (hs : ¬ S g) : MaskAt w' g I := (hk.block g h.lt hs).trans h
theorem MaskAt.new (w : World) (I : Nat → Bool) : MaskAt (w.alloc (.cells #[.int .u64 (maskW I 0), .int .u64 (maskW I 1), .int .u64 (maskW I 2), .int .u64 (maskW I 3)] 67)) w.heap.size I := heap_alloc_new w _
theorem MaskAt.c0 (h : MaskAt w g I) : w.cell? ⟨g, 0, none⟩ = some (.int .u64 (maskW I 0)) := by unfold MaskAt at h; simp [World.cell?, h]
theorem MaskAt.c1 (h : MaskAt w g I) : w.cell? ⟨g, 1, none⟩ = some (.int .u64 (maskW I 1)) := by unfold MaskAt at h; simp [World.cell?, h]
theorem MaskAt.c2 (h : MaskAt w g I) : w.cell? ⟨g, 2, none⟩ = some (.int .u64 (maskW I 2)) := by unfold MaskAt at h; simp [World.cell?, h]
theorem MaskAt.c3 (h : MaskAt w g I) : w.cell? ⟨g, 3, none⟩ = some (.int .u64 (maskW I 3)) := by unfold MaskAt at h; simp [World.cell?, h]
theorem MaskAt.frozen (h : MaskAt w g I) (k : Nat) : w.frozen? ⟨g, k, none⟩ = false := by unfold MaskAt at h; simp [World.frozen?, h]
theorem MaskAt.cell (h : MaskAt w g I) {k : Nat} (hk : k < 4) : w.cell? ⟨g, k, none⟩ = some (.int .u64 (maskW I k)) := by
  have : k = 0 ∨ k = 1 ∨ k = 2 ∨ k = 3 := by omega
  rcases this with rfl | rfl | rfl | rfl
  · exact h.c0
  · exact h.c1
  · exact h.c2
  · exact h.c3
end

theorem or_word (I J : Nat → Bool) (i : Nat) : bits .or .u64 (maskW I i : Int) (maskW J i : Int) = (maskW (orB I J) i : Int) := by rw [u64_or_nat _ _ (maskW_lt _ _) (maskW_lt _ _), maskW_or]
theorem and_word (I J : Nat → Bool) (i : Nat) : bits .and .u64 (maskW I i : Int) (maskW J i : Int) = (maskW (andB I J) i : Int) := by rw [u64_and_nat _ _ (maskW_lt _ _) (maskW_lt _ _), maskW_and]
theorem less_word (I J : Nat → Bool) (i : Nat) : bits .andNot .u64 (maskW I i : Int) (maskW J i : Int) = (maskW (lessB I J) i : Int) := by rw [u64_andNot_nat _ _ (maskW_lt _ _) (maskW_lt _ _), maskW_less]

theorem only_drew {S : Nat → Prop} {a w : World} (h : Only S a w) : Only S a w.drew := ⟨h.os, h.tape, h.output, h.size, h.block⟩
/-- A mask on its way from one set to another: the first k words are done. -/
def MixAt (w : World) (g k : Nat) (I K : Nat → Bool) : Prop := w.rowIs g 67 4 (fun j => .int .u64 (if j < k then maskW K j else maskW I j))
theorem MixAt.start {w : World} {g : Nat} {I K : Nat → Bool} (h : MaskAt w g I) : MixAt w g 0 I K := ⟨_, h, rfl, fun j hj => by
  have : j = 0 ∨ j = 1 ∨ j = 2 ∨ j = 3 := by omega
  rcases this with rfl | rfl | rfl | rfl <;> simp⟩
theorem MixAt.done {w : World} {g : Nat} {I K : Nat → Bool} (h : MixAt w g 4 I K) : MaskAt w g K := by
  obtain ⟨c, hc, hs, hi⟩ := h
  have e : c = #[.int .u64 (maskW K 0), .int .u64 (maskW K 1), .int .u64 (maskW K 2), .int .u64 (maskW K 3)] := by
    apply Array.ext
    · simpa using hs
    · intro j h1 h2
      have h3 := hi j (by omega)
      have : j = 0 ∨ j = 1 ∨ j = 2 ∨ j = 3 := by omega
      rw [Array.getElem?_eq_getElem h1] at h3
      rcases this with rfl | rfl | rfl | rfl <;> simpa using h3
  rw [e] at hc
  exact hc
theorem MixAt.cell {w : World} {g k : Nat} {I K : Nat → Bool} (h : MixAt w g k I K) (hk : k < 4) : w.cell? ⟨g, k, none⟩ = some (.int .u64 (maskW I k)) := by
  have := World.rowIs.cell (i := k) h hk
  simpa using this
theorem MixAt.set {w : World} {g k : Nat} {I K : Nat → Bool} (h : MixAt w g k I K) : MixAt (w.setCell ⟨g, k, none⟩ (.int .u64 (maskW K k))) g (k + 1) I K := by
  refine World.rowIs.congr (World.rowIs.set h k _) fun i hi => ?_
  by_cases e : i = k
  · subst e; simp
  · by_cases h1 : i < k
    · have : i < k + 1 := by omega
      simp [e, h1, this]
    · have : ¬ i < k + 1 := by omega
      simp [e, h1, this]
theorem MixAt.frozen {w : World} {g k : Nat} {I K : Nat → Bool} (h : MixAt w g k I K) (j : Nat) : w.frozen? ⟨g, j, none⟩ = false := World.rowIs.frozen h j

set_option maxRecDepth 100000 in
set_option maxHeartbeats 4000000 in
theorem mask_with {w : World} (I J : Nat → Bool) :
    Calls Tryd.prog 107 #[maskV I, maskV J] w fun e w' => e = .returned (maskV (orB I J)) ∧ Below w.heap.size w w' := by
  obtain ⟨K, hK⟩ : ∃ K, K = orB I J := ⟨_, rfl⟩
  have HE : Hid (∀ i, bits .or .u64 (maskW I i : Int) (maskW J i : Int) = (maskW K i : Int)) := fun i => by rw [hK]; exact or_word I J i
  rw [← hK]
  clear hK
  go_enter Tryd.func107, Tryd.ntmps107
  go_wp2
  obtain ⟨w1, hw1⟩ : ∃ y, y = ((w.alloc (.cells #[.int .u64 (maskW I 0), .int .u64 (maskW I 1), .int .u64 (maskW I 2), .int .u64 (maskW I 3)] 67)).alloc (.cells #[.int .u64 (maskW J 0), .int .u64 (maskW J 1), .int .u64 (maskW J 2), .int .u64 (maskW J 3)] 67)).alloc (.cells #[.int .u64 0, .int .u64 0, .int .u64 0, .int .u64 0] 67) := ⟨_, rfl⟩
  rw [← hw1]
  have HB : Hid (Below w.heap.size w w1) := by rw [hw1]; exact ((((Below.refl _ _).alloc (Nat.le_refl _) _).alloc (by simp) _).alloc (by simp; omega) _)
  have HI : Hid (MixAt w1 w.heap.size 0 I K) := by
    rw [hw1]
    exact MixAt.start (((MaskAt.new w I).below (below1 _ _)).below (below1 _ _))
  have HJ : Hid (MaskAt w1 (w.heap.size + 1) J) := by
    rw [hw1]
    have h := (MaskAt.new (w.alloc (.cells #[.int .u64 (maskW I 0), .int .u64 (maskW I 1), .int .u64 (maskW I 2), .int .u64 (maskW I 3)] 67)) J).below (below1 _ (.cells #[.int .u64 0, .int .u64 0, .int .u64 0, .int .u64 0] 67))
    rw [World.size_alloc] at h
    exact h
  have HZ : Hid (w1.heap[w.heap.size + 1 + 1]? = some (.cells #[.int .u64 0, .int .u64 0, .int .u64 0, .int .u64 0] 67 (0, 0))) := by
    rw [hw1]
    have h := heap_alloc_new ((w.alloc (.cells #[.int .u64 (maskW I 0), .int .u64 (maskW I 1), .int .u64 (maskW I 2), .int .u64 (maskW I 3)] 67)).alloc (.cells #[.int .u64 (maskW J 0), .int .u64 (maskW J 1), .int .u64 (maskW J 2), .int .u64 (maskW J 3)] 67)) (.cells #[.int .u64 0, .int .u64 0, .int .u64 0, .int .u64 0] 67)
    rw [World.size_alloc, World.size_alloc] at h
    exact h
  clear hw1
  go_loopw [6] (fun iv wr => ∃ k : Nat, k ≤ 4 ∧ iv = .int .i64 k ∧ Hid (MixAt wr w.heap.size k I K) ∧ Hid (Only (fun b => b = w.heap.size) w1 wr)) (fun iv _ => 4 - (intOf iv).toNat)
  case atStart => exact ⟨0, by omega, rfl, HI, Only.refl _ _⟩
  case round =>
    obtain ⟨k, hk, rfl, HM, HO⟩ := hrel
    by_cases hlt : k < 4
    · have hi1 : (k : Int) < 4 := by omega
      have hk0 : (0 : Int) ≤ (k : Int) := by omega
      have c1 := HM.out.cell hlt
      have f1 := HM.out.frozen k
      have c2 := (HJ.out.only HO.out (by omega)).cell hlt
      have he := HE.out k
      go_wp2
      go_region_law (fail)
      all_goals (
        go_wp2
        go_roundw
        case rel =>
          refine ⟨k + 1, by omega, by go_num, HM.out.set, ?_⟩
          exact only_drew (HO.out.setCell (p := ⟨w.heap.size, k, none⟩) rfl _)
        case measure => simp [intOf]; omega)
    · have hi1 : ¬ (k : Int) < 4 := by omega
      obtain rfl : k = 4 := by omega
      have c0 := HM.out.done.c0
      have c1 := HM.out.done.c1
      have c2 := HM.out.done.c2
      have c3 := HM.out.done.c3
      have HZ2 := Lib.hid ((HO.out.block _ (Array.getElem?_eq_some_iff.1 HZ.out).1 (by omega)).trans HZ.out)
      have z0 : wr.frozen? ⟨w.heap.size + 1 + 1, 0, none⟩ = false := by simp [World.frozen?, HZ2.out]
      have z1 : wr.frozen? ⟨w.heap.size + 1 + 1, 1, none⟩ = false := by simp [World.frozen?, HZ2.out]
      have z2 : wr.frozen? ⟨w.heap.size + 1 + 1, 2, none⟩ = false := by simp [World.frozen?, HZ2.out]
      have z3 : wr.frozen? ⟨w.heap.size + 1 + 1, 3, none⟩ = false := by simp [World.frozen?, HZ2.out]
      have y0 : wr.cell? ⟨w.heap.size + 1 + 1, 0, none⟩ = some (.int .u64 0) := by simp [World.cell?, HZ2.out]
      have y1 : wr.cell? ⟨w.heap.size + 1 + 1, 1, none⟩ = some (.int .u64 0) := by simp [World.cell?, HZ2.out]
      have y2 : wr.cell? ⟨w.heap.size + 1 + 1, 2, none⟩ = some (.int .u64 0) := by simp [World.cell?, HZ2.out]
      have y3 : wr.cell? ⟨w.heap.size + 1 + 1, 3, none⟩ = some (.int .u64 0) := by simp [World.cell?, HZ2.out]
      go_wp2
      refine bodyPost_ret (v := maskV K) (by simp [results, Tryd.results107, go_sem, y0, y1, y2, y3]) rfl ⟨rfl, ?_⟩
      have hs := HB.out.size
      have hs2 := HO.out.size
      have hB2 := HB.out.trans ((HO.out.below (B := w.heap.size) (by omega) (fun b hb => by omega)))
      exact (((hB2.setCell (p := ⟨w.heap.size + 1 + 1, 0, none⟩) (by simp; omega) _).setCell (p := ⟨w.heap.size + 1 + 1, 1, none⟩) (by simp; omega) _).setCell (p := ⟨w.heap.size + 1 + 1, 2, none⟩) (by simp; omega) _).setCell (p := ⟨w.heap.size + 1 + 1, 3, none⟩) (by simp; omega) _

set_option maxRecDepth 100000 in
set_option maxHeartbeats 4000000 in
theorem mask_meet {w : World} (I J : Nat → Bool) :
    Calls Tryd.prog 75 #[maskV I, maskV J] w fun e w' => e = .returned (maskV (andB I J)) ∧ Below w.heap.size w w' := by
  obtain ⟨K, hK⟩ : ∃ K, K = andB I J := ⟨_, rfl⟩
  have HE : Hid (∀ i, bits .and .u64 (maskW I i : Int) (maskW J i : Int) = (maskW K i : Int)) := fun i => by rw [hK]; exact and_word I J i
  rw [← hK]
  clear hK
  go_enter Tryd.func75, Tryd.ntmps75
  go_wp2
  obtain ⟨w1, hw1⟩ : ∃ y, y = ((w.alloc (.cells #[.int .u64 (maskW I 0), .int .u64 (maskW I 1), .int .u64 (maskW I 2), .int .u64 (maskW I 3)] 67)).alloc (.cells #[.int .u64 (maskW J 0), .int .u64 (maskW J 1), .int .u64 (maskW J 2), .int .u64 (maskW J 3)] 67)).alloc (.cells #[.int .u64 0, .int .u64 0, .int .u64 0, .int .u64 0] 67) := ⟨_, rfl⟩
  rw [← hw1]
  have HB : Hid (Below w.heap.size w w1) := by rw [hw1]; exact ((((Below.refl _ _).alloc (Nat.le_refl _) _).alloc (by simp) _).alloc (by simp; omega) _)
  have HI : Hid (MixAt w1 w.heap.size 0 I K) := by
    rw [hw1]
    exact MixAt.start (((MaskAt.new w I).below (below1 _ _)).below (below1 _ _))
  have HJ : Hid (MaskAt w1 (w.heap.size + 1) J) := by
    rw [hw1]
    have h := (MaskAt.new (w.alloc (.cells #[.int .u64 (maskW I 0), .int .u64 (maskW I 1), .int .u64 (maskW I 2), .int .u64 (maskW I 3)] 67)) J).below (below1 _ (.cells #[.int .u64 0, .int .u64 0, .int .u64 0, .int .u64 0] 67))
    rw [World.size_alloc] at h
    exact h
  have HZ : Hid (w1.heap[w.heap.size + 1 + 1]? = some (.cells #[.int .u64 0, .int .u64 0, .int .u64 0, .int .u64 0] 67 (0, 0))) := by
    rw [hw1]
    have h := heap_alloc_new ((w.alloc (.cells #[.int .u64 (maskW I 0), .int .u64 (maskW I 1), .int .u64 (maskW I 2), .int .u64 (maskW I 3)] 67)).alloc (.cells #[.int .u64 (maskW J 0), .int .u64 (maskW J 1), .int .u64 (maskW J 2), .int .u64 (maskW J 3)] 67)) (.cells #[.int .u64 0, .int .u64 0, .int .u64 0, .int .u64 0] 67)
    rw [World.size_alloc, World.size_alloc] at h
    exact h
  clear hw1
  go_loopw [6] (fun iv wr => ∃ k : Nat, k ≤ 4 ∧ iv = .int .i64 k ∧ Hid (MixAt wr w.heap.size k I K) ∧ Hid (Only (fun b => b = w.heap.size) w1 wr)) (fun iv _ => 4 - (intOf iv).toNat)
  case atStart => exact ⟨0, by omega, rfl, HI, Only.refl _ _⟩
  case round =>
    obtain ⟨k, hk, rfl, HM, HO⟩ := hrel
    by_cases hlt : k < 4
    · have hi1 : (k : Int) < 4 := by omega
      have hk0 : (0 : Int) ≤ (k : Int) := by omega
      have c1 := HM.out.cell hlt
      have f1 := HM.out.frozen k
      have c2 := (HJ.out.only HO.out (by omega)).cell hlt
      have he := HE.out k
      go_wp2
      go_region_law (fail)
      all_goals (
        go_wp2
        go_roundw
        case rel =>
          refine ⟨k + 1, by omega, by go_num, HM.out.set, ?_⟩
          exact only_drew (HO.out.setCell (p := ⟨w.heap.size, k, none⟩) rfl _)
        case measure => simp [intOf]; omega)
    · have hi1 : ¬ (k : Int) < 4 := by omega
      obtain rfl : k = 4 := by omega
      have c0 := HM.out.done.c0
      have c1 := HM.out.done.c1
      have c2 := HM.out.done.c2
      have c3 := HM.out.done.c3
      have HZ2 := Lib.hid ((HO.out.block _ (Array.getElem?_eq_some_iff.1 HZ.out).1 (by omega)).trans HZ.out)
      have z0 : wr.frozen? ⟨w.heap.size + 1 + 1, 0, none⟩ = false := by simp [World.frozen?, HZ2.out]
      have z1 : wr.frozen? ⟨w.heap.size + 1 + 1, 1, none⟩ = false := by simp [World.frozen?, HZ2.out]
      have z2 : wr.frozen? ⟨w.heap.size + 1 + 1, 2, none⟩ = false := by simp [World.frozen?, HZ2.out]
      have z3 : wr.frozen? ⟨w.heap.size + 1 + 1, 3, none⟩ = false := by simp [World.frozen?, HZ2.out]
      have y0 : wr.cell? ⟨w.heap.size + 1 + 1, 0, none⟩ = some (.int .u64 0) := by simp [World.cell?, HZ2.out]
      have y1 : wr.cell? ⟨w.heap.size + 1 + 1, 1, none⟩ = some (.int .u64 0) := by simp [World.cell?, HZ2.out]
      have y2 : wr.cell? ⟨w.heap.size + 1 + 1, 2, none⟩ = some (.int .u64 0) := by simp [World.cell?, HZ2.out]
      have y3 : wr.cell? ⟨w.heap.size + 1 + 1, 3, none⟩ = some (.int .u64 0) := by simp [World.cell?, HZ2.out]
      go_wp2
      refine bodyPost_ret (v := maskV K) (by simp [results, Tryd.results75, go_sem, y0, y1, y2, y3]) rfl ⟨rfl, ?_⟩
      have hs := HB.out.size
      have hs2 := HO.out.size
      have hB2 := HB.out.trans ((HO.out.below (B := w.heap.size) (by omega) (fun b hb => by omega)))
      exact (((hB2.setCell (p := ⟨w.heap.size + 1 + 1, 0, none⟩) (by simp; omega) _).setCell (p := ⟨w.heap.size + 1 + 1, 1, none⟩) (by simp; omega) _).setCell (p := ⟨w.heap.size + 1 + 1, 2, none⟩) (by simp; omega) _).setCell (p := ⟨w.heap.size + 1 + 1, 3, none⟩) (by simp; omega) _

set_option maxRecDepth 100000 in
set_option maxHeartbeats 4000000 in
theorem mask_less {w : World} (I J : Nat → Bool) :
    Calls Tryd.prog 136 #[maskV I, maskV J] w fun e w' => e = .returned (maskV (lessB I J)) ∧ Below w.heap.size w w' := by
  obtain ⟨K, hK⟩ : ∃ K, K = lessB I J := ⟨_, rfl⟩
  have HE : Hid (∀ i, bits .andNot .u64 (maskW I i : Int) (maskW J i : Int) = (maskW K i : Int)) := fun i => by rw [hK]; exact less_word I J i
  rw [← hK]
  clear hK
  go_enter Tryd.func136, Tryd.ntmps136
  go_wp2
  obtain ⟨w1, hw1⟩ : ∃ y, y = ((w.alloc (.cells #[.int .u64 (maskW I 0), .int .u64 (maskW I 1), .int .u64 (maskW I 2), .int .u64 (maskW I 3)] 67)).alloc (.cells #[.int .u64 (maskW J 0), .int .u64 (maskW J 1), .int .u64 (maskW J 2), .int .u64 (maskW J 3)] 67)).alloc (.cells #[.int .u64 0, .int .u64 0, .int .u64 0, .int .u64 0] 67) := ⟨_, rfl⟩
  rw [← hw1]
  have HB : Hid (Below w.heap.size w w1) := by rw [hw1]; exact ((((Below.refl _ _).alloc (Nat.le_refl _) _).alloc (by simp) _).alloc (by simp; omega) _)
  have HI : Hid (MixAt w1 w.heap.size 0 I K) := by
    rw [hw1]
    exact MixAt.start (((MaskAt.new w I).below (below1 _ _)).below (below1 _ _))
  have HJ : Hid (MaskAt w1 (w.heap.size + 1) J) := by
    rw [hw1]
    have h := (MaskAt.new (w.alloc (.cells #[.int .u64 (maskW I 0), .int .u64 (maskW I 1), .int .u64 (maskW I 2), .int .u64 (maskW I 3)] 67)) J).below (below1 _ (.cells #[.int .u64 0, .int .u64 0, .int .u64 0, .int .u64 0] 67))
    rw [World.size_alloc] at h
    exact h
  have HZ : Hid (w1.heap[w.heap.size + 1 + 1]? = some (.cells #[.int .u64 0, .int .u64 0, .int .u64 0, .int .u64 0] 67 (0, 0))) := by
    rw [hw1]
    have h := heap_alloc_new ((w.alloc (.cells #[.int .u64 (maskW I 0), .int .u64 (maskW I 1), .int .u64 (maskW I 2), .int .u64 (maskW I 3)] 67)).alloc (.cells #[.int .u64 (maskW J 0), .int .u64 (maskW J 1), .int .u64 (maskW J 2), .int .u64 (maskW J 3)] 67)) (.cells #[.int .u64 0, .int .u64 0, .int .u64 0, .int .u64 0] 67)
    rw [World.size_alloc, World.size_alloc] at h
    exact h
  clear hw1
  go_loopw [6] (fun iv wr => ∃ k : Nat, k ≤ 4 ∧ iv = .int .i64 k ∧ Hid (MixAt wr w.heap.size k I K) ∧ Hid (Only (fun b => b = w.heap.size) w1 wr)) (fun iv _ => 4 - (intOf iv).toNat)
  case atStart => exact ⟨0, by omega, rfl, HI, Only.refl _ _⟩
  case round =>
    obtain ⟨k, hk, rfl, HM, HO⟩ := hrel
    by_cases hlt : k < 4
    · have hi1 : (k : Int) < 4 := by omega
      have hk0 : (0 : Int) ≤ (k : Int) := by omega
      have c1 := HM.out.cell hlt
      have f1 := HM.out.frozen k
      have c2 := (HJ.out.only HO.out (by omega)).cell hlt
      have he := HE.out k
      go_wp2
      go_region_law (fail)
      all_goals (
        go_wp2
        go_roundw
        case rel =>
          refine ⟨k + 1, by omega, by go_num, HM.out.set, ?_⟩
          exact only_drew (HO.out.setCell (p := ⟨w.heap.size, k, none⟩) rfl _)
        case measure => simp [intOf]; omega)
    · have hi1 : ¬ (k : Int) < 4 := by omega
      obtain rfl : k = 4 := by omega
      have c0 := HM.out.done.c0
      have c1 := HM.out.done.c1
      have c2 := HM.out.done.c2
      have c3 := HM.out.done.c3
      have HZ2 := Lib.hid ((HO.out.block _ (Array.getElem?_eq_some_iff.1 HZ.out).1 (by omega)).trans HZ.out)
      have z0 : wr.frozen? ⟨w.heap.size + 1 + 1, 0, none⟩ = false := by simp [World.frozen?, HZ2.out]
      have z1 : wr.frozen? ⟨w.heap.size + 1 + 1, 1, none⟩ = false := by simp [World.frozen?, HZ2.out]
      have z2 : wr.frozen? ⟨w.heap.size + 1 + 1, 2, none⟩ = false := by simp [World.frozen?, HZ2.out]
      have z3 : wr.frozen? ⟨w.heap.size + 1 + 1, 3, none⟩ = false := by simp [World.frozen?, HZ2.out]
      have y0 : wr.cell? ⟨w.heap.size + 1 + 1, 0, none⟩ = some (.int .u64 0) := by simp [World.cell?, HZ2.out]
      have y1 : wr.cell? ⟨w.heap.size + 1 + 1, 1, none⟩ = some (.int .u64 0) := by simp [World.cell?, HZ2.out]
      have y2 : wr.cell? ⟨w.heap.size + 1 + 1, 2, none⟩ = some (.int .u64 0) := by simp [World.cell?, HZ2.out]
      have y3 : wr.cell? ⟨w.heap.size + 1 + 1, 3, none⟩ = some (.int .u64 0) := by simp [World.cell?, HZ2.out]
      go_wp2
      refine bodyPost_ret (v := maskV K) (by simp [results, Tryd.results136, go_sem, y0, y1, y2, y3]) rfl ⟨rfl, ?_⟩
      have hs := HB.out.size
      have hs2 := HO.out.size
      have hB2 := HB.out.trans ((HO.out.below (B := w.heap.size) (by omega) (fun b hb => by omega)))
      exact (((hB2.setCell (p := ⟨w.heap.size + 1 + 1, 0, none⟩) (by simp; omega) _).setCell (p := ⟨w.heap.size + 1 + 1, 1, none⟩) (by simp; omega) _).setCell (p := ⟨w.heap.size + 1 + 1, 2, none⟩) (by simp; omega) _).setCell (p := ⟨w.heap.size + 1 + 1, 3, none⟩) (by simp; omega) _
end
end Go.Proofs.YtphkgnpkcfbnkabDoor
namespace Go.Proofs.YtphkgnpkcfbnkabDoor
section
open Go.RowKit

abbrev wordsV (a b c d : Int) : Value := .agg #[.int .u64 a, .int .u64 b, .int .u64 c, .int .u64 d]
/-- Two masks of the same words. -/
def sameW (a b c d a' b' c' d' : Int) : Bool := a == a' && (b == b' && (c == c' && d == d'))

theorem part_word (w : World) (xs : Array Value) (off : Nat) (v : Value) (hv : xs[off]? = some v) : (Go.part 65 xs off).run Tryd.prog w = .ok v w :=
  run_part_plain w (by kernel_rfl) hv

theorem eq_words (n : Nat) (w : World) (a b c d a' b' c' d' : Int) : (Op.equalIn (n + 1 + 1) 67 (wordsV a b c d) (wordsV a' b' c' d')).run Tryd.prog w = .ok (sameW a b c d a' b' c' d') w := by
  obtain ⟨i, hi⟩ : ∃ i, Tryd.prog.info? 65 = some i := info_of_underlying Tryd.underlying65
  have hc : Tryd.prog.cellsOf 65 = 1 := by kernel_rfl
  rw [run_equalIn_array w (n + 1) _ _ (e := 65) (n := 4) (by kernel_rfl) hi, hc]
  have hr : List.range 4 = [0, 1, 2, 3] := rfl
  rw [hr]
  have p0 : ∀ a b c d : Value, (Go.part 65 #[a, b, c, d] 0).run Tryd.prog w = .ok a w := fun a b c d => part_word w _ _ _ rfl
  have p1 : ∀ a b c d : Value, (Go.part 65 #[a, b, c, d] 1).run Tryd.prog w = .ok b w := fun a b c d => part_word w _ _ _ rfl
  have p2 : ∀ a b c d : Value, (Go.part 65 #[a, b, c, d] 2).run Tryd.prog w = .ok c w := fun a b c d => part_word w _ _ _ rfl
  have p3 : ∀ a b c d : Value, (Go.part 65 #[a, b, c, d] 3).run Tryd.prog w = .ok d w := fun a b c d => part_word w _ _ _ rfl
  have e : ∀ x y : Int, (Op.equalIn (n + 1) 65 (.int .u64 x) (.int .u64 y)).run Tryd.prog w = .ok (x == y) w := fun x y => run_equalIn_int w n 65 .u64 .u64 x y Tryd.underlying65
  have ea := e a a'
  have eb := e b b'
  have ec := e c c'
  have ed := e d d'
  unfold sameW
  clear e
  generalize (a == a') = ra at ea ⊢
  generalize (b == b') = rb at eb ⊢
  generalize (c == c') = rc at ec ⊢
  generalize (d == d') = rd at ed ⊢
  simp only [Op.eqItems, Sem.run_bind, Nat.mul_one, p0, ea, Result.andThen_ok]
  cases ra
  · simp
  simp only [Sem.run_bind, p1, eb, Result.andThen_ok, Bool.not_true, Bool.false_eq_true, if_false]
  cases rb
  · simp
  simp only [Sem.run_bind, p2, ec, Result.andThen_ok, Bool.not_true, Bool.false_eq_true, if_false]
  cases rc
  · simp
  simp only [Sem.run_bind, p3, ed, Result.andThen_ok, Bool.not_true, Bool.false_eq_true, if_false]
  cases rd <;> simp

theorem sameW_iff {I J : Nat → Bool} : sameW (maskW I 0) (maskW I 1) (maskW I 2) (maskW I 3) (maskW J 0) (maskW J 1) (maskW J 2) (maskW J 3) = true ↔ ∀ v, v < 256 → I v = J v := by
  rw [← maskW_eq]
  unfold sameW
  simp only [Bool.and_eq_true, beq_iff_eq, Int.natCast_inj]
  constructor
  · rintro ⟨h0, h1, h2, h3⟩ i hi
    have : i = 0 ∨ i = 1 ∨ i = 2 ∨ i = 3 := by omega
    rcases this with rfl | rfl | rfl | rfl <;> assumption
  · intro h
    exact ⟨h 0 (by omega), h 1 (by omega), h 2 (by omega), h 3 (by omega)⟩

/-- The same set below 256. -/
def SameP (I J : Nat → Bool) : Prop := ∀ v, v < 256 → I v = J v
noncomputable def sameM (I J : Nat → Bool) : Bool := @decide (SameP I J) (Classical.propDecidable _)
theorem sameB_iff {I J : Nat → Bool} : sameM I J = true ↔ ∀ v, v < 256 → I v = J v := by unfold sameM; rw [@decide_eq_true_eq _ (Classical.propDecidable _)]; exact Iff.rfl
theorem sameW_is (I J : Nat → Bool) : sameW (maskW I 0) (maskW I 1) (maskW I 2) (maskW I 3) (maskW J 0) (maskW J 1) (maskW J 2) (maskW J 3) = sameM I J := by
  rw [Bool.eq_iff_iff, sameW_iff, sameB_iff]

theorem eq_masks (n : Nat) (w : World) (I J : Nat → Bool) : (Op.equalIn (n + 1 + 1) 67 (maskV I) (maskV J)).run Tryd.prog w = .ok (sameM I J) w := by
  rw [← sameW_is]; exact eq_words n w _ _ _ _ _ _ _ _

theorem run_eq_masks (w : World) (I J : Nat → Bool) : (Op.equalIn 10000 67 (maskV I) (maskV J)).run Tryd.prog w = .ok (sameM I J) w := by
  have h := eq_masks 9998 w I J
  have hn : (9998 + 1 + 1 : Nat) = 10000 := rfl
  rw [hn] at h
  exact h

/-- An outcome as a value. -/
abbrev outcV (I J : Nat → Bool) : Value := .agg #[.int .u64 (maskW I 0), .int .u64 (maskW I 1), .int .u64 (maskW I 2), .int .u64 (maskW I 3), .int .u64 (maskW J 0), .int .u64 (maskW J 1), .int .u64 (maskW J 2), .int .u64 (maskW J 3)]

theorem run_eq_outs (w : World) (I J I' J' : Nat → Bool) : (Op.equalIn 10000 69 (outcV I J) (outcV I' J')).run Tryd.prog w = .ok (sameM I I' && sameM J J') w := by
  obtain ⟨i, hi⟩ : ∃ i, Tryd.prog.info? 67 = some i := info_of_underlying Tryd.underlying67
  have hc : Tryd.prog.cellsOf 67 = 4 := by kernel_rfl
  have hn1 : (10000 : Nat) = 9999 + 1 := rfl
  rw [hn1, run_equalIn_array w 9999 _ _ (e := 67) (n := 2) (by kernel_rfl) hi, hc]
  have hr : List.range 2 = [0, 1] := rfl
  rw [hr]
  have p0 : ∀ a b c d e f g h : Value, (Go.part 67 #[a, b, c, d, e, f, g, h] 0).run Tryd.prog w = .ok (.agg #[a, b, c, d]) w := fun a b c d e f g h => by kernel_rfl
  have p1 : ∀ a b c d e f g h : Value, (Go.part 67 #[a, b, c, d, e, f, g, h] 4).run Tryd.prog w = .ok (.agg #[e, f, g, h]) w := fun a b c d e f g h => by kernel_rfl
  have e0 := eq_masks 9997 w I I'
  have e1 := eq_masks 9997 w J J'
  have hn : (9997 + 1 + 1 : Nat) = 9999 := rfl
  rw [hn] at e0 e1
  generalize (9999 : Nat) = m at e0 e1 ⊢
  simp only [maskV] at e0 e1
  simp only [Op.eqItems, Sem.run_bind, Nat.zero_mul, Nat.one_mul, p0, Result.andThen_ok, e0]
  cases sameM I I'
  · simp
  · simp only [Sem.run_bind, Bool.not_true, Bool.false_eq_true, if_false, p1, Result.andThen_ok, e1]
    cases sameM J J' <;> simp

/-- Is a set empty? -/
noncomputable def noneB (I : Nat → Bool) : Bool := sameM I fun _ => false
theorem noneB_iff {I : Nat → Bool} : noneB I = true ↔ ∀ v, v < 256 → I v = false := sameB_iff

set_option maxRecDepth 100000 in
set_option maxHeartbeats 4000000 in
theorem mask_isEmpty {w : World} (I : Nat → Bool) {r : Bool} (hr : noneB I = r) :
    Calls Tryd.prog 131 #[maskV I] w fun e w' => e = .returned (.bool r) ∧ Below w.heap.size w w' := by
  have he : ∀ w, (Op.equalIn 10000 67 (.agg #[.int .u64 (maskW I 0), .int .u64 (maskW I 1), .int .u64 (maskW I 2), .int .u64 (maskW I 3)]) (.agg #[.int .u64 0, .int .u64 0, .int .u64 0, .int .u64 0])).run Tryd.prog w = .ok r w := fun w => by
    have h := run_eq_masks w I (fun _ => false)
    rw [← hr]
    unfold noneB
    rw [← h]
    unfold maskV
    rw [maskW_none, maskW_none, maskW_none, maskW_none]
    rfl
  clear hr
  go_enter Tryd.func131, Tryd.ntmps131
  go_wp2
  go_ret
  exact ⟨rfl, below1 _ _⟩

theorem has_word (I : Nat → Bool) (v : Nat) (r : Bool) (hr : I v = r) : (bits .and .u64 ((maskW I (v / 64) : Int) / 2 ^ (v % 64)) 1 == 1) = r := by
  have h := maskW_has I v
  have hl := maskW_lt I (v / 64)
  have e1 : ((maskW I (v / 64) : Int) / 2 ^ (v % 64)) = ((maskW I (v / 64) / 2 ^ (v % 64) : Nat) : Int) := by
    rw [Int.natCast_ediv, Int.natCast_pow]; rfl
  have e2 : maskW I (v / 64) / 2 ^ (v % 64) < 18446744073709551616 := Nat.lt_of_le_of_lt (Nat.div_le_self _ _) hl
  rw [e1, show (1 : Int) = ((1 : Nat) : Int) from rfl, u64_and_nat _ _ e2 (by decide), Nat.and_one_is_mod, h]
  rw [hr]
  cases r <;> rfl

set_option maxRecDepth 100000 in
set_option maxHeartbeats 4000000 in
theorem mask_has {w : World} (I : Nat → Bool) (v : Nat) {r : Bool} (hr : I v = r) (hv : v < 256) :
    Calls Tryd.prog 106 #[maskV I, .int .i64 v] w fun e w' => e = .returned (.bool r) ∧ Below w.heap.size w w' := by
  have he := has_word I v r hr
  have hc := (MaskAt.new w I).cell (k := v / 64) (by omega)
  have h0 : (0 : Int) ≤ (v : Int) := by omega
  have h1 : (v : Int) < 256 := by omega
  clear hr
  go_enter Tryd.func106, Tryd.ntmps106
  go_wp2
  go_ret
  exact ⟨rfl, below1 _ _⟩

/-- The variable that holds an outcome. -/
def OutAt (w : World) (g : Nat) (I J : Nat → Bool) : Prop := w.heap[g]? = some (.cells #[.int .u64 (maskW I 0), .int .u64 (maskW I 1), .int .u64 (maskW I 2), .int .u64 (maskW I 3), .int .u64 (maskW J 0), .int .u64 (maskW J 1), .int .u64 (maskW J 2), .int .u64 (maskW J 3)] 69 (0, 0))

set_option maxRecDepth 100000 in
set_option maxHeartbeats 4000000 in
theorem outcome_winner {w : World} (I J : Nat → Bool) (v : Nat) {r : Bool} (hr : J v = r) (hv : v < 256) :
    Calls Tryd.prog 65 #[outcV I J, .int .i64 v] w fun e w' => e = .returned (.int .i64 (if r = true then 1 else 0)) ∧ Below w.heap.size w w' := by
  have HC := fun w => mask_has (w := w) J v hr hv
  clear hr
  cases r
  all_goals
    go_enter Tryd.func65, Tryd.ntmps65
    go_wp2_with (go_at_call 106; refine (HC _).mono ?_; rintro e w1 ⟨rfl, hb⟩)
    go_ret
    exact ⟨rfl, (below1 _ _).trans (hb.mono (by simp))⟩

theorem MaskAt.row {w : World} {g : Nat} {I : Nat → Bool} (h : MaskAt w g I) : w.rowIs g 67 4 (fun j => .int .u64 (maskW I j)) := World.rowIs.congr (MixAt.start (K := I) h) fun i _ => by simp
theorem MaskAt.of_row {w : World} {g : Nat} {I : Nat → Bool} (h : w.rowIs g 67 4 (fun j => .int .u64 (maskW I j))) : MaskAt w g I := MixAt.done (I := I) (World.rowIs.congr h fun i hi => by simp [hi])
/-- One more member. -/
theorem MaskAt.put {w : World} {g v : Nat} {I : Nat → Bool} (h : MaskAt w g I) : MaskAt (w.setCell ⟨g, v / 64, none⟩ (.int .u64 (maskW (orB I (oneB v)) (v / 64)))) g (orB I (oneB v)) := by
  refine MaskAt.of_row (World.rowIs.congr (World.rowIs.set h.row (v / 64) _) fun i hi => ?_)
  by_cases e : i = v / 64
  · subst e; simp
  · simp [e, maskW_other I e]

/-- A block of four numbers, cell by cell. -/
theorem four_at {w : World} {g : Nat} {t : TypeId} {a b c d : Value} (h : w.heap[g]? = some (.cells #[a, b, c, d] t (0, 0))) :
    w.frozen? ⟨g, 0, none⟩ = false ∧ w.frozen? ⟨g, 1, none⟩ = false ∧ w.frozen? ⟨g, 2, none⟩ = false ∧ w.frozen? ⟨g, 3, none⟩ = false ∧
      w.cell? ⟨g, 0, none⟩ = some a ∧ w.cell? ⟨g, 1, none⟩ = some b ∧ w.cell? ⟨g, 2, none⟩ = some c ∧ w.cell? ⟨g, 3, none⟩ = some d := by
  refine ⟨?_, ?_, ?_, ?_, ?_, ?_, ?_, ?_⟩ <;> simp [World.cell?, World.frozen?, h]

/-- The members of a list. -/
def ofL (zs : List Int) : Nat → Bool := fun v => hasB zs (v : Int)
theorem ofL_iff {zs : List Int} {v : Nat} : ofL zs v = true ↔ (v : Int) ∈ zs := by unfold ofL; exact hasB_iff
theorem ofL_snoc {zs : List Int} {v : Nat} : ofL (zs ++ [(v : Int)]) = orB (ofL zs) (oneB v) := funext fun x => by
  rw [Bool.eq_iff_iff, ofL_iff]
  unfold orB oneB
  rw [Bool.or_eq_true, ofL_iff]
  simp only [List.mem_append, List.mem_singleton, decide_eq_true_eq, Int.natCast_inj]
theorem or_bit (I : Nat → Bool) (v : Nat) : bits .or .u64 (maskW I (v / 64) : Int) ((2 ^ (v % 64) : Nat) : Int) = (maskW (orB I (oneB v)) (v / 64) : Int) := by
  have h : 2 ^ (v % 64) < 18446744073709551616 := Nat.pow_lt_pow_right (a := 2) (n := 64) (by omega) (by omega)
  rw [u64_or_nat _ _ (maskW_lt _ _) h, maskW_one]

set_option maxRecDepth 100000 in
set_option maxHeartbeats 4000000 in
theorem maskOf_is {w : World} {a : Option Addr} {zs : List Int} (cap : Nat) (h : IntsAt w a zs) (hz : ∀ x ∈ zs, ∃ v : Nat, x = (v : Int) ∧ v < 256) (hl : zs.length ≤ 1048576) :
    Calls Tryd.prog 74 #[.slice a zs.length cap] w fun e w' => e = .returned (maskV (ofL zs)) ∧ Below w.heap.size w w' := by
  have HI := Lib.hid h
  have HZ := Lib.hid hz
  clear h hz
  go_enter Tryd.func74, Tryd.ntmps74
  go_wp2
  obtain ⟨w1, hw1⟩ : ∃ y, y = (w.alloc (.cells #[.int .u64 0, .int .u64 0, .int .u64 0, .int .u64 0] 67)).alloc (.cells #[.int .u64 0, .int .u64 0, .int .u64 0, .int .u64 0] 67) := ⟨_, rfl⟩
  rw [← hw1]
  have HB : Hid (Below w.heap.size w w1) := by rw [hw1]; exact below2 _ _ _
  have e0 : (.cells #[.int .u64 0, .int .u64 0, .int .u64 0, .int .u64 0] 67 : Obj) = .cells #[.int .u64 (maskW (ofL []) 0), .int .u64 (maskW (ofL []) 1), .int .u64 (maskW (ofL []) 2), .int .u64 (maskW (ofL []) 3)] 67 := by
    have : ofL [] = fun _ => false := rfl
    rw [this, maskW_none, maskW_none, maskW_none, maskW_none]; rfl
  have HM : Hid (MaskAt w1 (w.heap.size + 1) (ofL (zs.take 0))) := by
    rw [hw1, e0]
    have h := MaskAt.new (w.alloc (.cells #[.int .u64 (maskW (ofL []) 0), .int .u64 (maskW (ofL []) 1), .int .u64 (maskW (ofL []) 2), .int .u64 (maskW (ofL []) 3)] 67)) (ofL [])
    rw [World.size_alloc] at h
    exact h
  have HR : Hid (w1.heap[w.heap.size]? = some (.cells #[.int .u64 0, .int .u64 0, .int .u64 0, .int .u64 0] 67 (0, 0))) := by
    rw [hw1]
    exact (Below.heap_alloc _ _ _ (by simp)).trans (heap_alloc_new w _)
  clear hw1 e0
  go_loopw [8] (fun iv wr => ∃ k : Nat, k ≤ zs.length ∧ iv = .int .i64 k ∧ Hid (MaskAt wr (w.heap.size + 1) (ofL (zs.take k))) ∧ Hid (Only (fun b => b = w.heap.size + 1) w1 wr)) (fun iv _ => zs.length - (intOf iv).toNat)
  case atStart => exact ⟨0, Nat.zero_le _, rfl, HM, Only.refl _ _⟩
  case round =>
    obtain ⟨k, hk, rfl, HM, HO⟩ := hrel
    by_cases hlt : k < zs.length
    · have hi1 : (k : Int) < zs.length := by omega
      have hk0 : (0 : Int) ≤ (k : Int) := by omega
      obtain ⟨v, hv, hv256⟩ := HZ.out _ (nth_mem hlt)
      have hs := HB.out.size
      obtain ⟨ib, io, hia, hic⟩ := ((HI.out.below HB.out)).cell (by omega)
      have i1 := hic k hlt
      rw [hv] at i1
      have hbb : ib < w.heap.size := by
        obtain ⟨ib2, io2, hia2, hic2⟩ := HI.out.cell (by omega)
        rw [hia] at hia2
        cases hia2
        exact World.block_lt_of_cell? _ _ (hic2 k hlt)
      have i2 : wr.cell? ⟨ib, io + k, none⟩ = some (.int .i64 v) := (World.cell?_of_block (HO.out.block ib (by omega) (by omega))).trans i1
      have h0 : (0 : Int) ≤ (v : Int) := by omega
      have h1 : (v : Int) < 256 := by omega
      obtain ⟨d, hd⟩ : ∃ d, d = v / 64 := ⟨_, rfl⟩
      obtain ⟨m, hm⟩ : ∃ m, m = v % 64 := ⟨_, rfl⟩
      have c1 := HM.out.cell (k := d) (by omega)
      have f1 := HM.out.frozen d
      have hst : ofL (zs.take (k + 1)) = orB (ofL (zs.take k)) (oneB v) := by rw [take_snoc hlt, hv, ofL_snoc]
      have HST := Lib.hid hst
      have he := or_bit (ofL (zs.take k)) v
      rw [← hd, ← hm] at he
      obtain ⟨x, hx⟩ : ∃ x : Nat, x = 2 ^ m := ⟨_, rfl⟩
      rw [← hx] at he
      have hxl : x < 18446744073709551616 := by rw [hx]; exact Nat.pow_lt_pow_right (a := 2) (n := 64) (by omega) (by omega)
      have q1 : IntKind.i64.wrap ((v : Int) / 64) = (d : Int) := by rw [IntWalk.i64_in _ (by omega)]; omega
      have q2 : (v : Int).tmod 64 = (m : Int) := by rw [Int.tmod_eq_emod_of_nonneg h0]; omega
      have q3 : (0 : Int) ≤ (d : Int) := by omega
      have q4 : (d : Int) < 4 := by omega
      have q5 : (0 : Int) ≤ (m : Int) := by omega
      have q6 : (m : Int) < 64 := by omega
      have q7 : IntKind.u64.wrap (2 ^ m) = (x : Int) := by
        have : (2 ^ m : Int) = (x : Int) := by rw [hx]; simp
        rw [this, IntKind.wrap_u64]; omega
      have HD := Lib.hid hd
      clear hic i1 hst hv hd hm hx
      subst hia
      go_wp2
      go_region_law (fail)
      all_goals (
        go_wp2
        go_roundw
        case rel =>
          refine ⟨k + 1, by omega, by go_num, ?_, only_drew (HO.out.setCell (p := ⟨w.heap.size + 1, d, none⟩) rfl _)⟩
          rw [HST.out, HD.out]
          exact HM.out.put
        case measure => simp [intOf]; omega)
    · have hi1 : ¬ (k : Int) < zs.length := by omega
      obtain rfl : k = zs.length := by omega
      rw [List.take_length] at HM
      have c0 := HM.out.c0
      have c1 := HM.out.c1
      have c2 := HM.out.c2
      have c3 := HM.out.c3
      have hs := HB.out.size
      have hr2 := (HO.out.block _ (Array.getElem?_eq_some_iff.1 HR.out).1 (by omega)).trans HR.out
      obtain ⟨z0, z1, z2, z3, y0, y1, y2, y3⟩ := four_at hr2
      clear hr2
      go_wp2
      refine bodyPost_ret (v := maskV (ofL zs)) (by simp [results, Tryd.results74, go_sem, y0, y1, y2, y3]) rfl ⟨rfl, ?_⟩
      have hs2 := HO.out.size
      have hB2 := HB.out.trans ((HO.out.below (B := w.heap.size) (by omega) (fun b hb => by omega)))
      exact (((hB2.setCell (p := ⟨w.heap.size, 0, none⟩) (by simp) _).setCell (p := ⟨w.heap.size, 1, none⟩) (by simp) _).setCell (p := ⟨w.heap.size, 2, none⟩) (by simp) _).setCell (p := ⟨w.heap.size, 3, none⟩) (by simp) _
end
end Go.Proofs.YtphkgnpkcfbnkabDoor
namespace Go.Proofs.YtphkgnpkcfbnkabDoor
section
open Go.RowKit Go.Shelf

/-- The library's table stands. -/
def TabW (w : World) : Prop := ∀ j, j < 64 → w.cell? ⟨1, j, none⟩ = some (.int .u8 (Lib.deBruijn64tab.getD j 0))
theorem TabW.lt {w : World} (h : TabW w) : 1 < w.heap.size := World.block_lt_of_cell? _ _ (h 0 (by omega))
theorem TabW.below {w w' : World} (h : TabW w) (hb : Below w.heap.size w w') : TabW w' := fun j hj => (hb.cell (p := ⟨1, j, none⟩) h.lt).trans (h j hj)
theorem TabW.only {S : Nat → Prop} {w w' : World} (h : TabW w) (hk : Only S w w') (hs : ¬ S 1) : TabW w' := fun j hj => (World.cell?_of_block (hk.block _ h.lt hs)).trans (h j hj)

theorem tz_key (x a : Nat) (hx : x < 18446744073709551616) (hx0 : x ≠ 0) (hlow : x &&& (18446744073709551616 - x) = a) :
    IntKind.u64.wrap (bits BinOp.and IntKind.u64 (x : Int) (IntKind.u64.wrap (-(x : Int))) * 285870213051353865) / 288230376151711744 = ((a * 285870213051353865 % 18446744073709551616 / 288230376151711744 : Nat) : Int) := by
  have e1 : IntKind.u64.wrap (-(x : Int)) = ((18446744073709551616 - x : Nat) : Int) := by rw [IntKind.wrap_u64]; omega
  rw [e1, u64_and_nat x _ hx (by omega), hlow, IntKind.wrap_u64]
  omega

set_option maxRecDepth 100000 in
set_option maxHeartbeats 4000000 in
theorem tz64_is {w : World} (x : Nat) (hx : x < 18446744073709551616) (hx0 : x ≠ 0) (hT : TabW w) :
    Calls Tryd.prog 138 #[.int .u64 x] w fun e w' => e = .returned (.int .i64 (Lib.ctz 64 x)) ∧ w = w' := by
  obtain ⟨hlow, hk⟩ := Lib.lowest_bit 64 x hx0 hx
  obtain ⟨hi, htab⟩ := Lib.deBruijn64_at _ hk
  have hcell := hT _ hi
  rw [htab] at hcell
  have key := tz_key x _ hx hx0 hlow
  obtain ⟨k, hkk⟩ : ∃ k, k = Lib.ctz 64 x := ⟨_, rfl⟩
  rw [← hkk] at hk hcell key hi ⊢
  obtain ⟨idx, hidx⟩ : ∃ idx, idx = 2 ^ k * 285870213051353865 % 18446744073709551616 / 288230376151711744 := ⟨_, rfl⟩
  rw [← hidx] at hcell key hi
  have h0 : ((x : Int) == 0) = false := beq_eq_false_iff_ne.2 (by omega)
  have h1 : (idx : Int) < 64 := by omega
  have h2 : (0 : Int) ≤ (idx : Int) := by omega
  have h3 : (k : Int) < 64 := by omega
  have h4 : (0 : Int) ≤ (k : Int) := by omega
  clear hlow htab hkk hidx hx0
  go_enter Tryd.func138, Tryd.ntmps138
  go_wp2_with (simp only [key])
  go_ret
  exact ⟨rfl, rfl⟩

set_option maxHeartbeats 1000000 in
theorem mask_all (w : World) (I : Nat → Bool) :
    Calls Tryd.prog 109 #[maskV I] w fun e w' => e = .returned (.func (.func 137) #[] #[.pointer (some ⟨w.heap.size, 0, none⟩)]) ∧ w' = w.alloc (.cells #[.int .u64 (maskW I 0), .int .u64 (maskW I 1), .int .u64 (maskW I 2), .int .u64 (maskW I 3)] 67) := by
  go_enter Tryd.func109, Tryd.ntmps109
  go_wp2
  go_ret
  exact ⟨rfl, rfl⟩
end

section
open Go.RowKit Go.Shelf
attribute [local go_sem] Oper.semAt_some

/-- A member of a set. -/
abbrev MemI (I : Nat → Bool) := { v : Nat // v < 256 ∧ I v = true }
def encI {I : Nat → Bool} (x : MemI I) : Array Value := #[.int .i64 (x.1 : Int)]
def valI {I : Nat → Bool} (pre : List (MemI I)) : List Int := pre.map fun x => (x.1 : Int)

/-- The library's table lies as it lay. -/
def StayT (W W' : World) : Prop := W'.heap[(1 : Nat)]? = W.heap[(1 : Nat)]?
theorem StayT.refl (W : World) : StayT W W := rfl
theorem StayT.trans {A B C : World} (h : StayT A B) (k : StayT B C) : StayT A C := Eq.trans k h
theorem StayT.tab {W W' : World} (h : StayT W W') (hT : TabW W) : TabW W' := fun j hj => (World.cell?_of_block (a := ⟨1, j, none⟩) h).trans (hT j hj)
theorem stayT_b {w : World} (hT : TabW w) (W : World) (l : Nat) (o o' : Obj) (hl : w.heap.size ≤ l) (_ : W.heap[l]? = some o) (_ : o.isCells = false) (_ : o.isWalk = false) : StayT W (W.putObj l o') :=
  World.putObj_heap_other (by have := hT.lt; omega)

theorem index_word (I : Nat → Bool) {k : Nat} (hk : k < 4) (w : World) : (Instr.index 67 (.agg #[.int .u64 (maskW I 0), .int .u64 (maskW I 1), .int .u64 (maskW I 2), .int .u64 (maskW I 3)]) (.int .i64 (k : Int))).run Tryd.prog w = .ok (.int .u64 (maskW I k)) w := by
  have i0 : ∀ a b c d : Value, (Instr.index 67 (.agg #[a, b, c, d]) (.int .i64 0)).run Tryd.prog w = .ok a w := fun _ _ _ _ => by kernel_rfl
  have i1 : ∀ a b c d : Value, (Instr.index 67 (.agg #[a, b, c, d]) (.int .i64 1)).run Tryd.prog w = .ok b w := fun _ _ _ _ => by kernel_rfl
  have i2 : ∀ a b c d : Value, (Instr.index 67 (.agg #[a, b, c, d]) (.int .i64 2)).run Tryd.prog w = .ok c w := fun _ _ _ _ => by kernel_rfl
  have i3 : ∀ a b c d : Value, (Instr.index 67 (.agg #[a, b, c, d]) (.int .i64 3)).run Tryd.prog w = .ok d w := fun _ _ _ _ => by kernel_rfl
  have : k = 0 ∨ k = 1 ∨ k = 2 ∨ k = 3 := by omega
  rcases this with rfl | rfl | rfl | rfl
  · exact i0 _ _ _ _
  · exact i1 _ _ _ _
  · exact i2 _ _ _ _
  · exact i3 _ _ _ _

theorem marked_take {I : Nat → Bool} : ∀ {n m : Nat}, m ≤ n → (markedK I n).take (markedK I m).length = markedK I m
  | 0, m, h => by
    obtain rfl : m = 0 := by omega
    rfl
  | n + 1, m, h => by
    by_cases e : m = n + 1
    · rw [e, List.take_length]
    · have ih := marked_take (I := I) (n := n) (m := m) (by omega)
      rw [markedK, List.take_append_of_le_length]
      · exact ih
      · rw [← ih, List.length_take]; omega

theorem rest_sub (x : Nat) (hx : x < 18446744073709551616) (h0 : x ≠ 0) : bits .and .u64 (x : Int) ((x : Int) - 1) = ((x &&& (x - 1) : Nat) : Int) := by
  have e : (x : Int) - 1 = ((x - 1 : Nat) : Int) := by omega
  rw [e, u64_and_nat _ _ hx (by omega)]

set_option maxRecDepth 100000 in
set_option maxHeartbeats 4000000 in
theorem all1_in (m : Nat) (hm : 1 ≤ m) (l Bs : Nat) (I : Nat → Bool) (J Jx : List (MemI I) → World → Prop)
    (hY : ∀ pre x W, J pre W → pre.length < 256 → YieldAt Fence.wide (m - 1) Tryd.prog l (encI x) W fun e W' =>
      (e = .returned (.bool true) ∧ J (pre ++ [x]) W' ∧ StayT W W') ∨ (e = .returned (.bool false) ∧ Jx (pre ++ [x]) W'))
    (W : World) (hT : TabW W) (hBs : MaskAt W Bs I) (h0 : J [] W) :
    CallsIn Fence.wide m Tryd.prog 137 #[.func (.yield l) #[] #[], .pointer (some ⟨Bs, 0, none⟩)] W fun e W' => (∃ v, e = .returned v) ∧
      ((∃ ys, valI ys = markedK I 256 ∧ J ys W') ∨ (∃ pre, (∃ k, valI pre = (markedK I 256).take k) ∧ Jx pre W')) := by
  have c0 := hBs.c0
  have c1 := hBs.c1
  have c2 := hBs.c2
  have c3 := hBs.c3
  have HY := Lib.hid hY
  have HT := Lib.hid hT
  clear hY hT hBs
  refine callsIn_of_wp Tryd.func137 rfl trivial ?_ rfl
  simp only [Tryd.ntmps137, List.size_toArray, List.length_cons, List.length_nil, Nat.reduceAdd, Nat.reduceSub, Array.replicate_succ, Array.replicate_zero, List.push_toArray, List.append_toArray, List.nil_append, List.cons_append]
  gi_wp2
  gi_loopw [6] (fun iv wr => ∃ (k : Nat) (pre : List (MemI I)), k ≤ 4 ∧ iv = .int .i64 k ∧ Hid (valI pre = markedK I (64 * k)) ∧ Hid (J pre wr) ∧ Hid (StayT W wr)) (fun iv _ => 4 - (intOf iv).toNat)
  case atStart => exact ⟨0, [], by omega, by go_num, rfl, h0, StayT.refl _⟩
  case round =>
    obtain ⟨k, pre, hk, rfl, HP, HJ, HS⟩ := hrel
    by_cases hlt : k < 4
    · have hi1 : (k : Int) < 4 := by omega
      have hk0 : (0 : Int) ≤ (k : Int) := by omega
      have hix := index_word I hlt
      gi_wp2
      obtain ⟨wo, hwo⟩ : ∃ wo : World, wo = wr := ⟨_, rfl⟩
      rw [← hwo] at HJ HS ⊢
      clear hwo
      gi_loopw [4] (fun xv wr => ∃ (c : Nat) (qre : List (MemI I)), c ≤ 64 ∧ xv = .int .u64 (restW I k c) ∧ Hid (valI qre = markedK I (64 * k + c)) ∧ Hid (J qre wr) ∧ Hid (StayT W wr)) (fun xv _ => (intOf xv).toNat)
      case atStart => exact ⟨0, pre, by omega, by rw [restW_zero], HP, HJ, HS⟩
      case round =>
        obtain ⟨c, qre, hc, rfl, HP2, HJ2, HS2⟩ := hrel
        by_cases hx0 : restW I k c = 0
        · have hx1 : ((restW I k c : Int) == 0) = true := by rw [hx0]; rfl
          have hx2 : ((restW I k c : Int) != 0) = false := by rw [hx0]; rfl
          have HPn : Hid (valI qre = markedK I (64 * (k + 1))) := by
            have h := restW_none.1 hx0
            rw [HP2.out]
            exact (marked_skip (v := 64 * (k + 1)) (by omega) fun x h1 h2 => by
              have := h (x - 64 * k) (by omega) (by omega)
              rwa [show 64 * k + (x - 64 * k) = x by omega] at this).symm
          clear hx0
          gi_wp2
          go_roundw
          case rel => exact ⟨k + 1, qre, by omega, by go_num, HPn, HJ2, HS2⟩
          case measure => simp [intOf]; omega
        · have hx1 : ((restW I k c : Int) == 0) = false := beq_eq_false_iff_ne.2 (by omega)
          have hx2 : ((restW I k c : Int) != 0) = true := bne_iff_ne.2 (by omega)
          obtain ⟨d, hd, hd64, hcd, hId, hbet, hdrop⟩ := restW_next hx0
          have hxl := restW_lt I k c
          have hsub := rest_sub _ hxl hx0
          rw [hdrop] at hsub
          have hless : restW I k (d + 1) < restW I k c := by
            rw [← hdrop]
            exact Nat.lt_of_le_of_lt Nat.and_le_right (by omega)
          have HC := Lib.hid (tz64_is (w := wr) (restW I k c) hxl hx0 (HS2.out.tab HT.out))
          rw [hd] at HC
          obtain ⟨v, hv⟩ : ∃ v, v = 64 * k + d := ⟨_, rfl⟩
          have hv256 : v < 256 := by omega
          have hIv : I v = true := by rw [hv]; exact hId
          have hq : (k : Int) * 64 + (d : Int) = (v : Int) := by omega
          have hb1 : (0 : Int) ≤ (d : Int) := by omega
          have hb2 : (d : Int) < 64 := by omega
          have hql : qre.length < 256 := by
            have h1 := markedK_len I (64 * k + c)
            rw [← HP2.out] at h1
            unfold valI at h1
            rw [List.length_map] at h1
            omega
          have hY1 := HY.out qre ⟨v, hv256, hIv⟩ wr HJ2.out hql
          unfold encI at hY1
          dsimp only at hY1
          have hpn : valI (qre ++ [(⟨v, hv256, hIv⟩ : MemI I)]) = markedK I (v + 1) := by
            unfold valI
            rw [List.map_append, List.map_singleton]
            show valI qre ++ _ = _
            rw [HP2.out, markedK, if_pos hIv]
            congr 1
            rw [hv]
            exact (marked_skip (by omega) fun x h1 h2 => by
              have := hbet (x - 64 * k) (by omega) (by omega)
              rwa [show 64 * k + (x - 64 * k) = x by omega] at this).symm
          have HPN := Lib.hid hpn
          have HV := Lib.hid hv
          clear hpn hv hd hbet hdrop hx0 hId hql
          obtain ⟨fn, tmps, assign, body, hy, hR⟩ := hY1
          gi_wp2_with (refine ⟨trivial, ?_⟩; gi_at_call 138; refine (callsIn_wide.2 HC.out).mono ?_; rintro e w2 ⟨rfl, rfl⟩)
          refine hR.mono ?_
          rintro e W3 (⟨rfl, hJ3, hk3⟩ | ⟨rfl, hJx3⟩)
          · gi_wp2
            go_roundw
            case rel =>
              refine ⟨d + 1, _, by omega, rfl, ?_, hJ3, HS2.out.trans hk3⟩
              show _ = markedK I (64 * k + (d + 1))
              rw [HPN.out, HV.out]
              rfl
            case measure => simp [intOf]; omega
          · gi_wp2
            refine bodyPost_ret (results_none rfl _ _ _) rfl ?_
            refine ⟨⟨_, rfl⟩, .inr ⟨_, ⟨(markedK I (v + 1)).length, ?_⟩, hJx3⟩⟩
            rw [HPN.out]
            exact (marked_take (by omega)).symm
    · have hi1 : ¬ (k : Int) < 4 := by omega
      obtain rfl : k = 4 := by omega
      gi_wp2
      go_end0
      exact ⟨⟨_, rfl⟩, .inl ⟨pre, HP.out, HJ.out⟩⟩

/-- What a mask's 'all' hands back goes over its members, in order. -/
theorem all_stops (m : Nat) (hm : 1 ≤ m) (Bs : Nat) (I : Nat → Bool) (w : World) (hT : TabW w) (hBs : MaskAt w Bs I) :
    SeqStopsK Fence.wide m Tryd.prog 137 #[.pointer (some ⟨Bs, 0, none⟩)] (encI (I := I)) StayT (fun ys => valI ys = markedK I 256) (fun pre => ∃ k, valI pre = (markedK I 256).take k) 256 w := fun l J Jx W hW _ _ hY h0 =>
  all1_in m hm l Bs I J Jx hY W (hT.below hW) (hBs.below hW) h0
end
end Go.Proofs.YtphkgnpkcfbnkabDoor
namespace Go.Proofs.YtphkgnpkcfbnkabDoor
section
variable {P : Program} {ops : Array Oper} {Q : Exit → Act → World → Prop} {md : Region.Mode} {S : World → Prop} {m : Nat}

/-- Do those from m on wait for all of the first m? -/
def tailB (md : Region.Mode) (ops : Array Oper) (m : Nat) : Bool :=
  (List.range ops.size).all fun j => decide (j < m) || (List.range m).all fun i => match ops[j]? with | some o => o.after.any fun e => Region.binds md e && e.on == i | none => true

theorem tail_waits {i j : Nat} {listed : Array Bool} (h : tailB md ops m = true) (hi : i < m) (hu : listed.getD i true = false) (hj : j ∈ Region.ready md ops listed) : j < m := by
  obtain ⟨-, o, ho, hall⟩ := mem_ready.1 hj
  have hjs : j < ops.size := (Array.getElem?_eq_some_iff.1 ho).1
  have h1 := List.all_eq_true.1 h j (List.mem_range.2 hjs)
  rw [Bool.or_eq_true, decide_eq_true_eq] at h1
  rcases h1 with h1 | h1
  · exact h1
  · have h2 := List.all_eq_true.1 h1 i (List.mem_range.2 hi)
    rw [ho] at h2
    obtain ⟨q, hq, hb⟩ := Array.any_eq_true.1 h2
    obtain ⟨x, hxe⟩ : ∃ x, x = o.after[q] := ⟨_, rfl⟩
    have hx : x ∈ o.after := by rw [hxe]; exact Array.getElem_mem hq
    rw [← hxe] at hb
    rw [Bool.and_eq_true, beq_iff_eq] at hb
    have h3 := hall x hx hb.1
    rw [hb.2] at h3
    by_cases hlt : i < listed.size
    · simp [hlt] at hu h3
      rw [hu] at h3
      exact Bool.noConfusion h3
    · have hn : listed[i]? = none := Array.getElem?_eq_none (by omega)
      simp [hn] at h3

/-- Whatever comes first of what may; behind each of the first m S holds. -/
def wpAnyM (P : Program) (md : Region.Mode) (ops : Array Oper) (Q : Exit → Act → World → Prop) (S : World → Prop) (m : Nat) : Nat → Array Bool → Act → World → Prop
  | 0, listed, a, w => Region.ready md ops listed = [] ∧ Q .normal a w
  | fuel + 1, listed, a, w =>
    (Region.ready md ops listed = [] → Q .normal a w) ∧
    ∀ i ∈ Region.ready md ops listed, wpOp P ops Q i (fun a' w' => (i < m → S w') ∧ wpAnyM P md ops Q S m fuel (listed.setIfInBounds i true) a' w') a w

theorem wpAny_of_M : ∀ (fuel : Nat) (listed : Array Bool) (a : Act) (w : World), wpAnyM P md ops Q S m fuel listed a w → wpAny P md ops Q fuel listed a w
  | 0, _, _, _, h => h
  | fuel + 1, _, _, _, h => ⟨h.1, fun i hi => wpOp_mono (fun _ _ h' => wpAny_of_M fuel _ _ _ h'.2) (h.2 i hi)⟩

theorem wpAnyM_first {i : Nat} {oi : Oper} {v : Value} (hT : tailB md ops m = true) (him : i < m) (hi : ops[i]? = some oi) (hsel : ∀ (j : Nat) (o : Oper) cs b, ops[j]? = some o → o.op ≠ .select cs b)
    (hQ : ∀ c a w, Q (.panic c) (a.put oi.dst v) w → Q (.panic c) a w) :
    ∀ (fuel : Nat) (listed : Array Bool) (a : Act) (w : World),
      (∀ j oj, ops[j]? = some oj → j ≠ i → listed.getD j true = false → (∀ e ∈ oj.after, Region.binds md e = true → e.on ≠ i) → oi.apart ops oj = true) →
      i ∈ Region.ready md ops listed → YieldsIf P ops S oi v a → S w →
      wpAnyM P md ops Q S m fuel (listed.setIfInBounds i true) (a.put oi.dst v) w → wpAnyM P md ops Q S m (fuel + 1) listed a w := by
  intro fuel
  induction fuel with
  | zero =>
    intro listed a w _ hr hy hS H
    refine ⟨fun h => absurd hr (by rw [h]; exact List.not_mem_nil), fun j hj => ?_⟩
    by_cases e : j = i
    · rw [e]; exact hy.wpOp hi hS ⟨fun _ => hS, H⟩
    · have := ready_mono hj e
      rw [H.1] at this
      exact absurd this List.not_mem_nil
  | succ fuel ih =>
    intro listed a w hfree hr hy hS H
    refine ⟨fun h => absurd hr (by rw [h]; exact List.not_mem_nil), fun j hj => ?_⟩
    by_cases e : j = i
    · rw [e]; exact hy.wpOp hi hS ⟨fun _ => hS, H⟩
    · obtain ⟨hjun, oj, hoj, hall⟩ := mem_ready.1 hj
      have hiun := (mem_ready.1 hr).1
      have hjm : j < m := tail_waits hT him hiun hj
      have hnot : ∀ e ∈ oj.after, Region.binds md e = true → e.on ≠ i := fun x hx hb heq => by
        have h1 := hall x hx hb
        rw [heq] at h1
        by_cases hlt : i < listed.size
        · simp [hlt] at hiun h1
          rw [hiun] at h1
          exact Bool.noConfusion h1
        · have hn : listed[i]? = none := Array.getElem?_eq_none (by omega)
          simp [hn] at h1
      have h2 := wpOp_putIf hoj (hfree j oj hoj e hjun hnot) (fun cs b => hsel i oi cs b hi) (fun cs b => hsel j oj cs b hoj) hQ hy (H.2 j (ready_mono hj e))
      have hfree' : ∀ k ok, ops[k]? = some ok → k ≠ i → (listed.setIfInBounds j true).getD k true = false → (∀ x ∈ ok.after, Region.binds md x = true → x.on ≠ i) → oi.apart ops ok = true := fun k ok hk hki hun hno => by
        refine hfree k ok hk hki ?_ hno
        by_cases hjk : j = k
        · rw [← hjk]; exact hjun
        · rw [getD_set_ne true hjk] at hun; exact hun
      refine wpOp_mono (fun a' w' h3 => ?_) h2
      obtain ⟨hy3, hS3, hW3⟩ := h3
      have hS4 := hS3 hjm
      refine ⟨fun _ => hS4, ih _ a' w' hfree' (ready_mono hr (fun x => e x.symm)) hy3 hS4 ?_⟩
      rw [Array.setIfInBounds_comm _ _ e]
      exact hW3

/-- Take number i first. -/
theorem wpAnyM_take {i : Nat} {oi : Oper} {v : Value} {fuel : Nat} {listed : Array Bool} {a : Act} {w : World} (hi : ops[i]? = some oi) (hT : tailB md ops m = true) (him : i < m)
    (hs : Region.noSelect ops = true) (hf : Region.free md ops listed i = true) (hr : (Region.ready md ops listed).contains i = true)
    (hQ : ∀ c a w, Q (.panic c) (a.put oi.dst v) w → Q (.panic c) a w) (hy : YieldsIf P ops S oi v a) (hS : S w)
    (h : wpAnyM P md ops Q S m fuel (listed.setIfInBounds i true) (a.put oi.dst v) w) : wpAnyM P md ops Q S m (fuel + 1) listed a w :=
  wpAnyM_first hT him hi (Region.noSelect_spec hs) hQ fuel listed a w (Region.free_spec hi hf) (by simpa using hr) hy hS h

/-- Number i alone may come up. -/
theorem wpAnyM_one {i : Nat} {o : Oper} {fuel : Nat} {listed : Array Bool} {a : Act} {w : World} (hr : Region.ready md ops listed = [i]) (ho : ops[i]? = some o)
    (h : ∀ K' : Act → World → Prop, Shut (∀ a w, (i < m → S w) → ((i < m → S w) → wpAnyM P md ops Q S m fuel (listed.setIfInBounds i true) a w) → K' a w) → if Region.wanted o (yielded ops a.tmps) = true then Oper.wp P o a w K' Q else K' (a.put o.dst undef) w) :
    wpAnyM P md ops Q S m (fuel + 1) listed a w :=
  ⟨fun h0 => absurd h0 (by rw [hr]; exact List.cons_ne_nil _ _), fun j hj => by
    rw [hr, List.mem_singleton] at hj
    rw [hj]
    exact wpOp_step ho (fun K' hK => h K' (fun a w hS hW => hK a w ⟨hS, hW hS⟩))⟩

/-- Two may come up. -/
theorem wpAnyM_two {i j : Nat} {o o' : Oper} {fuel : Nat} {listed : Array Bool} {a : Act} {w : World} (hr : Region.ready md ops listed = [i, j]) (ho : ops[i]? = some o) (ho' : ops[j]? = some o')
    (h : ∀ K' : Act → World → Prop, Shut (∀ a w, (i < m → S w) → ((i < m → S w) → wpAnyM P md ops Q S m fuel (listed.setIfInBounds i true) a w) → K' a w) → if Region.wanted o (yielded ops a.tmps) = true then Oper.wp P o a w K' Q else K' (a.put o.dst undef) w)
    (h' : ∀ K' : Act → World → Prop, Shut (∀ a w, (j < m → S w) → ((j < m → S w) → wpAnyM P md ops Q S m fuel (listed.setIfInBounds j true) a w) → K' a w) → if Region.wanted o' (yielded ops a.tmps) = true then Oper.wp P o' a w K' Q else K' (a.put o'.dst undef) w) :
    wpAnyM P md ops Q S m (fuel + 1) listed a w :=
  ⟨fun h0 => absurd h0 (by rw [hr]; exact List.cons_ne_nil _ _), fun k hk => by
    rw [hr, List.mem_cons, List.mem_singleton] at hk
    rcases hk with hk | hk
    · rw [hk]; exact wpOp_step ho (fun K' hK => h K' (fun a w hS hW => hK a w ⟨hS, hW hS⟩))
    · rw [hk]; exact wpOp_step ho' (fun K' hK => h' K' (fun a w hS hW => hK a w ⟨hS, hW hS⟩))⟩

theorem wpAnyM_done {listed : Array Bool} {a : Act} {w : World} (hr : Region.ready md ops listed = []) (h : Q .normal a w) : ∀ fuel, wpAnyM P md ops Q S m fuel listed a w
  | 0 => ⟨hr, h⟩
  | _ + 1 => ⟨fun _ => h, fun i hi => absurd hi (by rw [hr]; exact List.not_mem_nil)⟩

/-- The beginning, in a function's own body. -/
theorem wp_region_M {id : Nat} {a : Act} {w : World} (hm : P.follows .mixedOrders = true) (hS : S w.drew)
    (h : S w.drew → wpAnyM P .any ops Q S m ops.size (Array.replicate ops.size false) a w.drew) : (Code.region id ops true).wp P Q a w :=
  wp_region_any hm (wpAny_of_M _ _ _ _ (h hS))

/-- What is asked of a region in a round: it does not outgrow. -/
def calmQ (Q : Exit → Act → World → Prop) : Exit → Act → World → Prop
  | .outgrown, _, _ => False
  | e, a, w => Q e a w

theorem calm_normal {a : Act} {w : World} (h : Q .normal a w) : calmQ Q .normal a w := h

/-- No operation is a defer statement. -/
def noDefer (ops : Array Oper) : Bool := ops.all fun o => match o.op with | .defer _ => false | _ => true

theorem noDefer_spec {j : Nat} {o : Oper} (h : noDefer ops = true) (ho : ops[j]? = some o) : ∀ c, o.op ≠ .defer c := fun c e => by
  have hm : o ∈ ops := Array.mem_of_getElem? ho
  have := Array.all_eq_true_iff_forall_mem.1 h o hm
  rw [e] at this
  exact Bool.noConfusion this

theorem wpAnyIn_round {l n : Nat} (hd : noDefer ops = true) : ∀ (fuel : Nat) (listed : Array Bool) (a : Act) (w : World), wpAny P md ops (calmQ Q) fuel listed a w → wpAnyIn (Fence.wide.inRound l) n P md ops Q fuel listed a w
  | 0, _, _, _, h => h
  | fuel + 1, listed, a, w, h => ⟨h.1, fun i hi => by
    have h1 := h.2 i hi
    unfold wpOp at h1
    unfold wpOpIn
    cases ho : ops[i]? with
    | none => rw [ho] at h1; exact wpAnyIn_round hd fuel _ _ _ h1
    | some o =>
      rw [ho] at h1
      simp only at h1 ⊢
      by_cases hw : Region.wanted o (yielded ops a.tmps) = true
      · rw [if_pos hw] at h1 ⊢
        refine ⟨fun _ _ => trivial, ?_⟩
        rcases h1 with h1 | ⟨_, a', w', h1⟩
        · rw [Oper.semAt_eq _ _ _ (noDefer_spec hd ho)]
          unfold Oper.wp at h1
          generalize (execOp a.eval o).run P w = r at h1
          cases r with
          | ok x w' =>
            cases x with
            | value v => exact wpAnyIn_round hd fuel _ _ _ h1
            | skip => exact wpAnyIn_round hd fuel _ _ _ h1
            | defer d => exact wpAnyIn_round hd fuel _ _ _ h1
            | enter f args =>
              refine ⟨fun hh => Bool.noConfusion hh, CallsIn.inRound l (callsIn_wide.2 (Calls.mono h1 fun e w'' he => ?_))⟩
              cases e with
              | returned v => exact wpAnyIn_round hd fuel _ _ _ he
              | panicked ch => exact he
              | outgrown => obtain ⟨_, _, hf⟩ := he; exact hf.elim
            | row nm args =>
              have h2 : RowsIn Fence.wide (n - 1) P nm args w' fun v w'' => wpAnyIn (Fence.wide.inRound l) n P md ops Q fuel (listed.setIfInBounds i true) (a.put o.dst v) w'' := fun c cs _ => by
                obtain ⟨v, w2, r, s⟩ := Rows.mono h1 (fun v w'' hh => wpAnyIn_round hd fuel _ _ _ hh) c cs
                exact ⟨v, w2, r, stepsIn_wide.2 s⟩
              exact ⟨fun hh => Bool.noConfusion hh, h2⟩
            | _ => exact h1.elim
          | halt x w' =>
            cases x with
            | panic v => exact h1
            | _ => exact h1.elim
        · exact h1.elim
      · rw [if_neg hw] at h1 ⊢
        exact ⟨fun _ _ => trivial, wpAnyIn_round hd fuel _ _ _ h1⟩⟩

/-- The beginning, in a round. -/
theorem wpIn_region_M {id l n : Nat} {a : Act} {w : World} (hm : P.follows .mixedOrders = true) (hd : noDefer ops = true) (hS : S w.drew)
    (h : S w.drew → wpAnyM P .any ops (calmQ Q) S m ops.size (Array.replicate ops.size false) a w.drew) : (Code.region id ops true).wpIn (Fence.wide.inRound l) n P Q a w :=
  wpIn_region_any hm (wpAnyIn_round hd _ _ _ _ (wpAny_of_M _ _ _ _ (h hS)))
end
end Go.Proofs.YtphkgnpkcfbnkabDoor
namespace Go.Proofs.YtphkgnpkcfbnkabDoor
section
open Go.RowKit Go.Shelf

/-- How the body of a round is left. -/
def memPost {I : Nat → Bool} (C : Nat → Prop) (R : List (MemI I) → World → Prop) (Rx : Code → List (MemI I) → World → Prop) (xs : List (MemI I)) (W : World) : Exit → Act → World → Prop
  | .normal, _, W' => Only (fun k => C k ∨ W.heap.size ≤ k) W W' ∧ R xs W'
  | .ret, _, W' => Only (fun k => C k ∨ W.heap.size ≤ k) W W' ∧ Rx .ret xs W'
  | .exit id, _, W' => Only (fun k => C k ∨ W.heap.size ≤ k) W W' ∧ Rx (.exit id) xs W'
  | _, _, _ => False

theorem wp_members {w : World} {Bs : Nat} {I : Nat → Bool} {g : Operand} {ps : Array Tmp} {assign body : Code} {Q : Exit → Act → World → Prop} {a : Act}
    (hg : a.eval g = .func (.func 137) #[] #[.pointer (some ⟨Bs, 0, none⟩)]) (hT : TabW w) (hB : MaskAt w Bs I) (hps : ps.size = 1)
    (C : Nat → Prop) (hC : ∀ k, C k → k < w.heap.size ∧ k ≠ 1)
    (R : List (MemI I) → World → Prop) (Rx : Code → List (MemI I) → World → Prop)
    (hR : ∀ pre A A', R pre A → Only (fun k => w.heap.size ≤ k) A A' → R pre A')
    (hRx : ∀ c pre A A', Rx c pre A → Only (fun k => w.heap.size ≤ k) A A' → Rx c pre A')
    (h0 : R [] w) (a₁ : MemI I → Act)
    (hassign : ∀ (l : Nat) (x : MemI I) (W : World) (K : Act → World → Prop), K (a₁ x) W →
      assign.wpIn (Fence.wide.inRound l) 2 Tryd.prog (Exit.then K (fun _ _ _ => False)) { tmps := (ps.zip (encI x)).foldl (fun t (p, v) => t.setIfInBounds p v) a.tmps, defers := [] } W)
    (hbody : ∀ (l : Nat) (pre : List (MemI I)) (x : MemI I) (W : World), R pre W → Only (fun k => C k ∨ w.heap.size ≤ k) w W → body.wpIn (Fence.wide.inRound l) 2 Tryd.prog (memPost C R Rx (pre ++ [x]) W) (a₁ x) W)
    (hdone : ∀ (D : Nat) (xs : List (MemI I)) (W : World), w.heap.size ≤ D → valI xs = markedK I 256 → R xs W → Only (fun k => C k ∨ w.heap.size ≤ k) w W → W.heap[D]? = some (.deferred (some [])) → Q .normal { a with defers := { target := .collected D, args := #[] } :: a.defers } W)
    (hstop : ∀ (D : Nat) (c : Code) (pre : List (MemI I)) (W : World), w.heap.size ≤ D → (∃ k, valI pre = (markedK I 256).take k) → Rx c pre W → Only (fun k => C k ∨ w.heap.size ≤ k) w W → W.heap[D]? = some (.deferred (some [])) → c.wp Tryd.prog Q { a with defers := { target := .collected D, args := #[] } :: a.defers } W) :
    (Code.rangeFunc g ps assign body).wp Tryd.prog Q a w := by
  have hTl := hT.lt
  have keep : ∀ {W W' : World}, Only (fun k => C k ∨ w.heap.size ≤ k) w W → Only (fun k => C k ∨ W.heap.size ≤ k) W W' → KeepsFrom w.heap.size W W' ∧ StayT W W' ∧ Only (fun k => C k ∨ w.heap.size ≤ k) w W' := fun {W W'} ho hk => by
    have hs := ho.size
    refine ⟨⟨hk.size, fun k o hBk hok _ => (hk.block k (Array.getElem?_eq_some_iff.1 hok).1 fun hh => ?_).trans hok⟩, hk.block _ (by omega) fun hh => ?_, ho.trans (hk.mono fun k hh => hh.imp id fun h => by omega)⟩
    · rcases hh with hh | hh
      · have := (hC k hh).1; omega
      · have := (Array.getElem?_eq_some_iff.1 hok).1; omega
    · rcases hh with hh | hh
      · exact (hC _ hh).2 rfl
      · omega
  have grow : ∀ {A A' : World} {row : Option Nat}, A.grownBy A' row → (∀ r, row = some r → w.heap.size ≤ r ∧ ∃ o : Obj, A.heap[r]? = some o ∧ o.isCells = false) → Only (fun k => w.heap.size ≤ k) A A' := fun hg hr => (Only.of_grown hg).mono fun k hk => (hr k hk).1
  refine (wpIn_wide (n := 4)).1 ?_
  refine wpIn_rangeFunc_ownG (n := 4) rfl (by omega) (gf := 137) (lb := #[.pointer (some ⟨Bs, 0, none⟩)]) hg trivial (enters_of Tryd.func137 (by kernel_rfl) rfl)
    (all_stops 3 (by omega) Bs I w hT hB) StayT.trans (stayT_b hT) (Below.refl _ _) (fun _ => hps.symm)
    (fun pre W => R pre W ∧ Only (fun k => C k ∨ w.heap.size ≤ k) w W) (fun c pre W => Rx c pre W ∧ Only (fun k => C k ∨ w.heap.size ≤ k) w W)
    (fun pre A A' row hs hg hr => ⟨hR pre A A' hs.1 (grow hg hr), hs.2.trans ((grow hg hr).mono fun k hk => .inr hk)⟩)
    (fun c pre A A' row hs hg hr => ⟨hRx c pre A A' hs.1 (grow hg hr), hs.2.trans ((grow hg hr).mono fun k hk => .inr hk)⟩)
    ⟨h0, Only.refl _ _⟩ a₁ hassign ?body (fun D xs W hD hS hi hK => hdone D xs W hD hS hi.1 hi.2 hK) (fun D c pre W hD hS hi hK => wpIn_wide.2 (hstop D c pre W hD hS hi.1 hi.2 hK))
  case body =>
    intro l pre x W hi _
    refine wpIn_mono (hbody l pre x W hi.1 hi.2) ?_
    intro e a3 W3 hp
    cases e with
    | normal =>
      obtain ⟨ho, hr⟩ := hp
      obtain ⟨k1, k2, k3⟩ := keep hi.2 ho
      exact ⟨k1, k2, hr, k3⟩
    | ret =>
      obtain ⟨ho, hr⟩ := hp
      obtain ⟨k1, k2, k3⟩ := keep hi.2 ho
      exact ⟨k1, hr, k3⟩
    | exit id =>
      obtain ⟨ho, hr⟩ := hp
      obtain ⟨k1, k2, k3⟩ := keep hi.2 ho
      exact ⟨k1, hr, k3⟩
    | goto t => exact hp.elim
    | panic ch => exact hp.elim
    | outgrown => exact hp.elim
end
end Go.Proofs.YtphkgnpkcfbnkabDoor
namespace Go.Proofs.YtphkgnpkcfbnkabDoor
section
open Go.RowKit Go.Shelf
attribute [local go_sem] Oper.semAt_some

/-- A slice of masks. -/
def EdgesAt (w : World) (b off n : Nat) (E : Nat → Nat → Bool) : Prop := ∀ u, u < n → ∀ j, j < 4 → w.cell? ⟨b, off + u * 4 + j, none⟩ = some (.int .u64 (maskW (E u) j))
theorem EdgesAt.below {w w' : World} {b off n : Nat} {E : Nat → Nat → Bool} (h : EdgesAt w b off n E) (hb : Below w.heap.size w w') : EdgesAt w' b off n E := fun u hu j hj => Below.cell_some (B := 0) hb rfl (h u hu j hj)
theorem EdgesAt.only {S : Nat → Prop} {w w' : World} {b off n : Nat} {E : Nat → Nat → Bool} (h : EdgesAt w b off n E) (hk : Only S w w') (hs : ¬ S b) : EdgesAt w' b off n E := fun u hu j hj => by
  have h1 := h u hu j hj
  exact (World.cell?_of_block (hk.block b (World.block_lt_of_cell? _ _ h1) hs)).trans h1

/-- Those to which an edge leads from the list. -/
def anyE {I : Nat → Bool} (E : Nat → Nat → Bool) (pre : List (MemI I)) : Nat → Bool := fun x => pre.any fun v => E v.1 x
/-- Those to which an edge leads from the set. -/
def acrossB (E : Nat → Nat → Bool) (I : Nat → Bool) : Nat → Bool := fun x => (List.range 256).any fun v => I v && E v x
theorem acrossB_iff {E : Nat → Nat → Bool} {I : Nat → Bool} {x : Nat} : acrossB E I x = true ↔ ∃ v, v < 256 ∧ I v = true ∧ E v x = true := by
  unfold acrossB
  rw [List.any_eq_true]
  constructor
  · rintro ⟨v, hv, h⟩
    rw [Bool.and_eq_true] at h
    exact ⟨v, List.mem_range.1 hv, h⟩
  · rintro ⟨v, hv, h⟩
    exact ⟨v, List.mem_range.2 hv, Bool.and_eq_true_iff.2 h⟩
theorem mem_vals {I : Nat → Bool} {ys : List (MemI I)} (h : valI ys = markedK I 256) {v : Nat} (hv : v < 256) (hI : I v = true) : ∃ x ∈ ys, x.1 = v := by
  have h1 : (v : Int) ∈ markedK I 256 := (markedK_mem I 256 _).2 ⟨v, rfl, hv, hI⟩
  rw [← h] at h1
  obtain ⟨x, hx, e⟩ := List.mem_map.1 h1
  exact ⟨x, hx, Int.natCast_inj.1 e⟩
theorem anyE_all {I : Nat → Bool} {E : Nat → Nat → Bool} {ys : List (MemI I)} (h : valI ys = markedK I 256) : anyE E ys = acrossB E I := funext fun x => by
  rw [Bool.eq_iff_iff, acrossB_iff]
  unfold anyE
  rw [List.any_eq_true]
  constructor
  · rintro ⟨v, _, hv⟩
    exact ⟨v.1, v.2.1, v.2.2, hv⟩
  · rintro ⟨v, hv, hI, hE⟩
    obtain ⟨y, hy, rfl⟩ := mem_vals h hv hI
    exact ⟨y, hy, hE⟩
theorem anyE_snoc {I : Nat → Bool} {E : Nat → Nat → Bool} {pre : List (MemI I)} {x : MemI I} : anyE E (pre ++ [x]) = orB (anyE E pre) (E x.1) := funext fun y => by
  unfold anyE orB; rw [List.any_append]; simp

theorem mask_meet_as {w : World} {I J K : Nat → Bool} (hK : andB I J = K) : Calls Tryd.prog 75 #[maskV I, maskV J] w fun e w' => e = .returned (maskV K) ∧ Below w.heap.size w w' := by rw [← hK]; exact mask_meet I J
theorem mask_less_as {w : World} {I J K : Nat → Bool} (hK : lessB I J = K) : Calls Tryd.prog 136 #[maskV I, maskV J] w fun e w' => e = .returned (maskV K) ∧ Below w.heap.size w w' := by rw [← hK]; exact mask_less I J

theorem boxed_at {w : World} (t : TypeId) (v : Value) (g : Nat) (hg : w.heap.size = g) : Boxed (w.alloc (.cells #[v] t)) g t v := by rw [← hg]; exact Boxed.new w t v
theorem mask_new_at {w : World} (I : Nat → Bool) (g : Nat) (hg : w.heap.size = g) : MaskAt (w.alloc (.cells #[.int .u64 (maskW I 0), .int .u64 (maskW I 1), .int .u64 (maskW I 2), .int .u64 (maskW I 3)] 67)) g I := by rw [← hg]; exact MaskAt.new w I
theorem mask_zero : (.cells #[.int .u64 0, .int .u64 0, .int .u64 0, .int .u64 0] 67 : Obj) = .cells #[.int .u64 (maskW (fun _ => false) 0), .int .u64 (maskW (fun _ => false) 1), .int .u64 (maskW (fun _ => false) 2), .int .u64 (maskW (fun _ => false) 3)] 67 := by
  rw [maskW_none, maskW_none, maskW_none, maskW_none]; rfl
theorem bx_below {w w' : World} {g : Nat} {t : TypeId} {v : Value} (h : Boxed w g t v) (hb : Below w.heap.size w w') : Boxed w' g t v := (hb.block g h.lt).trans h
theorem bx_only {S : Nat → Prop} {w w' : World} {g : Nat} {t : TypeId} {v : Value} (h : Boxed w g t v) (hk : Only S w w') (hs : ¬ S g) : Boxed w' g t v := (hk.block g h.lt hs).trans h
/-- The four words of a mask's variable written. -/
theorem MaskAt.put4 {w : World} {g : Nat} {I : Nat → Bool} (J : Nat → Bool) (h : MaskAt w g I) : MaskAt ((((w.setCell ⟨g, 0, none⟩ (.int .u64 (maskW J 0))).setCell ⟨g, 1, none⟩ (.int .u64 (maskW J 1))).setCell ⟨g, 2, none⟩ (.int .u64 (maskW J 2))).setCell ⟨g, 3, none⟩ (.int .u64 (maskW J 3))) g J := by
  refine MaskAt.of_row (World.rowIs.congr ((((h.row.set 0 _).set 1 _).set 2 _).set 3 _) fun i hi => ?_)
  have : i = 0 ∨ i = 1 ∨ i = 2 ∨ i = 3 := by omega
  rcases this with rfl | rfl | rfl | rfl <;> simp
theorem only_put4 {S : Nat → Prop} {a w : World} {g : Nat} (h : Only S a w) (hg : S g) (x0 x1 x2 x3 : Value) (o : Nat) : Only S a ((((w.setCell ⟨g, o, none⟩ x0).setCell ⟨g, o + 1, none⟩ x1).setCell ⟨g, o + 2, none⟩ x2).setCell ⟨g, o + 3, none⟩ x3) :=
  (((h.setCell (p := ⟨g, o, none⟩) hg _).setCell (p := ⟨g, o + 1, none⟩) hg _).setCell (p := ⟨g, o + 2, none⟩) hg _).setCell (p := ⟨g, o + 3, none⟩) hg _

theorem ret_mask {fn : Func} {p : Tmp} {tmps : Array Value} {W : World} {g : Nat} {K : Nat → Bool} {R : Ending → World → Prop} (hr : fn.results = #[.cell p 67]) (hp : tmps.getD p undef = .pointer (some ⟨g, 0, none⟩))
    (hM : MaskAt W g K) (hR : R (.returned (maskV K)) W) : bodyPost Tryd.prog fn R .ret { tmps := tmps, defers := [] } W :=
  bodyPost_ret (v := maskV K) (results_cell_row hr tmps _ g _ _ _ (.array 4 65) hp hM (by kernel_rfl) rfl (by kernel_rfl)) rfl hR

/-- A function whose result is a mask's variable leaves behind a loop over a function. -/
theorem leaves_mask {fn : Func} {p : Tmp} {tmps : Array Value} {W : World} {D g : Nat} {K : Nat → Bool} {R : Ending → World → Prop} (hr : fn.results = #[.cell p 67]) (hp : tmps.getD p undef = .pointer (some ⟨g, 0, none⟩))
    (hM : MaskAt W g K) (hK : W.heap[D]? = some (.deferred (some []))) (hR : R (.returned (maskV K)) (W.putObj D (.deferred none))) :
    bodyPostM Fence.wide 4 Tryd.prog fn R .ret { tmps := tmps, defers := [{ target := .collected D, args := #[] }] } W := by
  refine ⟨by simp, .inl ⟨_, _, rfl, run_takeDeferred hK, ?_⟩⟩
  have hg : (W.putObj D (.deferred none)).heap[g]? = some (.cells #[.int .u64 (maskW K 0), .int .u64 (maskW K 1), .int .u64 (maskW K 2), .int .u64 (maskW K 3)] 67 (0, 0)) := by
    refine (World.putObj_heap_other fun e => ?_).trans hM
    unfold MaskAt at hM
    rw [e, hK] at hM
    cases hM
  exact ⟨_, results_cell_row hr tmps _ g _ _ _ (.array 4 65) hp hg (by kernel_rfl) rfl (by kernel_rfl), hR⟩

set_option linter.unusedSimpArgs false in
set_option maxRecDepth 100000 in
set_option maxHeartbeats 8000000 in
theorem across_is {w : World} {nb no n cap : Nat} {E : Nat → Nat → Bool} {I : Nat → Bool} (hT : TabW w) (hE : EdgesAt w nb no n E) (hI : ∀ v, I v = true → v < n) (_hn : n ≤ 256) :
    Calls Tryd.prog 156 #[.slice (some ⟨nb, no, none⟩) n cap, maskV I] w fun e w' => e = .returned (maskV (acrossB E I)) ∧ Below w.heap.size w w' := by
  have HE := Lib.hid hE
  have HT := Lib.hid hT
  have HI := Lib.hid hI
  clear hE hT hI
  refine (callsIn_wide (n := 4)).1 ?_
  refine callsIn_of_wp_marks Tryd.func156 rfl trivial ?_ rfl
  simp only [Tryd.ntmps156, List.size_toArray, List.length_cons, List.length_nil, Nat.reduceAdd, Nat.reduceSub, Array.replicate_succ, Array.replicate_zero, List.push_toArray, List.append_toArray, List.nil_append, List.cons_append]
  refine wpIn_wide.2 ?_
  go_wp2_with fail
  obtain ⟨w1, hw1⟩ : ∃ y, y = (((w.alloc (.cells #[.slice (some ⟨nb, no, none⟩) n cap] 126)).alloc (.cells #[.int .u64 (maskW I 0), .int .u64 (maskW I 1), .int .u64 (maskW I 2), .int .u64 (maskW I 3)] 67)).alloc (.cells #[.int .u64 0, .int .u64 0, .int .u64 0, .int .u64 0] 67)).alloc (.cells #[.int .u64 0, .int .u64 0, .int .u64 0, .int .u64 0] 67) := ⟨_, rfl⟩
  have HB : Hid (Below w.heap.size w w1) := by rw [hw1]; exact ((((Below.refl _ _).alloc (Nat.le_refl _) _).alloc (by simp) _).alloc (by simp; omega) _).alloc (by simp; omega) _
  have bE : Hid (Boxed w1 w.heap.size 126 (.slice (some ⟨nb, no, none⟩) n cap)) := by
    rw [hw1]; exact bx_below (bx_below (bx_below (Boxed.new w 126 (.slice (some ⟨nb, no, none⟩) n cap)) (below1 _ _)) (below1 _ _)) (below1 _ _)
  have bF : Hid (MaskAt w1 (w.heap.size + 1) I) := by
    rw [hw1]; exact ((mask_new_at I _ (by simp)).below (below1 _ _)).below (below1 _ _)
  have bR : Hid (MaskAt w1 (w.heap.size + 1 + 1) (fun _ => false)) := by
    rw [hw1, mask_zero]; exact (mask_new_at _ _ (by simp)).below (below1 _ _)
  have bT : Hid (MaskAt w1 (w.heap.size + 1 + 1 + 1) (fun _ => false)) := by
    rw [hw1, mask_zero]; exact mask_new_at _ _ (by simp)
  have hs1 : w1.heap.size = w.heap.size + 4 := by rw [hw1]; simp
  have HS1 := Lib.hid hs1
  rw [← hw1]
  clear hw1 hs1
  refine (mask_all w1 I).mono ?_
  rintro e w2 ⟨rfl, hw2⟩
  have B2 : Hid (Below w1.heap.size w1 w2) := by rw [hw2]; exact below1 _ _
  have bI : Hid (MaskAt w2 w1.heap.size I) := by rw [hw2]; exact MaskAt.new _ _
  have HS2 : Hid (w2.heap.size = w1.heap.size + 1) := by rw [hw2]; simp [Hid]
  clear hw2
  have T2 := Lib.hid ((HT.out.below HB.out).below B2.out)
  go_wp2_with fail
  refine wp_members (Bs := w1.heap.size) (I := I) rfl T2.out bI.out rfl (fun k => k = w.heap.size + 1 + 1 + 1)
    (fun k hk => by
      have h1 := HS1.out
      have h2 := HS2.out
      have h3 := HT.out.lt
      omega)
    (fun pre W => MaskAt W (w.heap.size + 1 + 1 + 1) (anyE E pre)) (fun _ _ _ => False)
    (fun pre A A' h ho => h.only ho (by have h1 := HS1.out; have h2 := HS2.out; omega)) (fun _ _ _ _ h _ => h)
    (bT.out.below B2.out) ?act ?assign ?body ?done ?stop
  case assign =>
    intro l x W K hK
    dsimp only [encI]
    gi_wp2
    exact hK
  case body =>
    intro l pre x W hR hO
    obtain ⟨v, hv⟩ : ∃ v : Nat, v = x.1 := ⟨_, rfl⟩
    have hvn : v < n := by rw [hv]; exact HI.out _ x.2.2
    have hv0 : (0 : Int) ≤ (v : Int) := by omega
    have hv1 : (v : Int) < (n : Int) := by omega
    rw [← hv]
    have h1 := HS1.out
    have h2 := HS2.out
    have hsW := hO.size
    have bEW := Lib.hid (bx_only (bx_below bE.out B2.out) hO (by omega))
    have hnb : nb < w.heap.size := World.block_lt_of_cell? _ _ (HE.out v hvn 0 (by omega))
    have HEW := Lib.hid (((HE.out.below HB.out).below B2.out).only hO (by omega))
    have HR := Lib.hid hR
    have HO := Lib.hid hO
    have HX : Hid (anyE E (pre ++ [x]) = orB (anyE E pre) (E v)) := by rw [anyE_snoc, ← hv]; rfl
    have HSw : Hid (∀ W', Below W.heap.size W W' → W'.cell? ⟨w.heap.size, 0, none⟩ = some (.slice (some ⟨nb, no, none⟩) n cap) ∧
        W'.cell? ⟨nb, no + v * 4, none⟩ = some (.int .u64 (maskW (E v) 0)) ∧ W'.cell? ⟨nb, no + v * 4 + 1, none⟩ = some (.int .u64 (maskW (E v) 1)) ∧ W'.cell? ⟨nb, no + v * 4 + 2, none⟩ = some (.int .u64 (maskW (E v) 2)) ∧ W'.cell? ⟨nb, no + v * 4 + 3, none⟩ = some (.int .u64 (maskW (E v) 3)) ∧
        W'.cell? ⟨w.heap.size + 1 + 1 + 1, 0, none⟩ = some (.int .u64 (maskW (anyE E pre) 0)) ∧ W'.cell? ⟨w.heap.size + 1 + 1 + 1, 1, none⟩ = some (.int .u64 (maskW (anyE E pre) 1)) ∧ W'.cell? ⟨w.heap.size + 1 + 1 + 1, 2, none⟩ = some (.int .u64 (maskW (anyE E pre) 2)) ∧ W'.cell? ⟨w.heap.size + 1 + 1 + 1, 3, none⟩ = some (.int .u64 (maskW (anyE E pre) 3))) := fun W' hb => by
      have m := HR.out.below hb
      have q := HEW.out.below hb
      exact ⟨(bx_below bEW.out hb).cell, q v hvn 0 (by omega), q v hvn 1 (by omega), q v hvn 2 (by omega), q v hvn 3 (by omega), m.c0, m.c1, m.c2, m.c3⟩
    have Kd : Hid (Below W.heap.size W W.drew) := (Below.refl _ _).drew
    clear hR hO hv
    gi_wp2
    refine wpIn_region_M (S := (fun W' => W'.cell? ⟨w.heap.size, 0, none⟩ = some (.slice (some ⟨nb, no, none⟩) n cap) ∧ W'.cell? ⟨nb, no + v * 4, none⟩ = some (.int .u64 (maskW (E v) 0)) ∧ W'.cell? ⟨nb, no + v * 4 + 1, none⟩ = some (.int .u64 (maskW (E v) 1)) ∧ W'.cell? ⟨nb, no + v * 4 + 2, none⟩ = some (.int .u64 (maskW (E v) 2)) ∧ W'.cell? ⟨nb, no + v * 4 + 3, none⟩ = some (.int .u64 (maskW (E v) 3)) ∧ W'.cell? ⟨w.heap.size + 1 + 1 + 1, 0, none⟩ = some (.int .u64 (maskW (anyE E pre) 0)) ∧ W'.cell? ⟨w.heap.size + 1 + 1 + 1, 1, none⟩ = some (.int .u64 (maskW (anyE E pre) 1)) ∧ W'.cell? ⟨w.heap.size + 1 + 1 + 1, 2, none⟩ = some (.int .u64 (maskW (anyE E pre) 2)) ∧ W'.cell? ⟨w.heap.size + 1 + 1 + 1, 3, none⟩ = some (.int .u64 (maskW (anyE E pre) 3)))) (m := 6) (by kernel_rfl) (by kernel_rfl) (HSw.out _ Kd.out) (fun hHeld => ?_)
    refine wpAnyM_take (i := 0) (v := ?vm1) rfl (by kernel_rfl) (by decide) (by kernel_rfl) (by kernel_rfl) (by kernel_rfl) (fun _ _ _ h => h) (Or.inl ⟨by rfl, ?hm1⟩) (by assumption) ?_
    case hm1 => (intro w hSw; (try dsimp only at hSw); go_simp; first | done | with_reducible rfl)
    try simp only [Act.put, List.setIfInBounds_toArray, List.set_cons_zero, List.set_cons_succ]
    refine wpAnyM_take (i := 1) (v := ?vm2) rfl (by kernel_rfl) (by decide) (by kernel_rfl) (by kernel_rfl) (by kernel_rfl) (fun _ _ _ h => h) (Or.inl ⟨by rfl, ?hm2⟩) (by assumption) ?_
    case hm2 => (intro w hSw; (try dsimp only at hSw); go_simp; first | done | with_reducible rfl)
    try simp only [Act.put, List.setIfInBounds_toArray, List.set_cons_zero, List.set_cons_succ]
    refine wpAnyM_take (i := 2) (v := ?vm3) rfl (by kernel_rfl) (by decide) (by kernel_rfl) (by kernel_rfl) (by kernel_rfl) (fun _ _ _ h => h) (Or.inl ⟨by rfl, ?hm3⟩) (by assumption) ?_
    case hm3 => (intro w hSw; (try dsimp only at hSw); go_simp; first | done | with_reducible rfl)
    try simp only [Act.put, List.setIfInBounds_toArray, List.set_cons_zero, List.set_cons_succ]
    refine wpAnyM_take (i := 3) (v := ?vm4) rfl (by kernel_rfl) (by decide) (by kernel_rfl) (by kernel_rfl) (by kernel_rfl) (fun _ _ _ h => h) (Or.inl ⟨by rfl, ?hm4⟩) (by assumption) ?_
    case hm4 => (intro w hSw; (try dsimp only at hSw); go_simp; first | done | with_reducible rfl)
    try simp only [Act.put, List.setIfInBounds_toArray, List.set_cons_zero, List.set_cons_succ]
    refine wpAnyM_take (i := 4) (v := ?vm5) rfl (by kernel_rfl) (by decide) (by kernel_rfl) (by kernel_rfl) (by kernel_rfl) (fun _ _ _ h => h) (Or.inl ⟨by rfl, ?hm5⟩) (by assumption) ?_
    case hm5 => (intro w hSw; (try dsimp only at hSw); go_simp; first | done | with_reducible rfl)
    try simp only [Act.put, List.setIfInBounds_toArray, List.set_cons_zero, List.set_cons_succ]
    refine wpAnyM_one (i := 5) (by kernel_rfl) rfl (fun K hK => ?_)
    go_simp
    go_at_call 107
    refine (mask_with _ _).mono ?_
    rintro e wa ⟨rfl, hb⟩
    have Ka := Lib.hid (Kd.out.trans (hb.mono Kd.out.size))
    clear hb
    go_wp2_with fail
    refine hK.out _ _ (fun _ => HSw.out _ Ka.out) (fun hHeld => ?_)
    have hHeld := hHeld (by decide)
    clear hK K
    try simp only [Act.put, List.setIfInBounds_toArray, List.set_cons_zero, List.set_cons_succ]
    have mA := HR.out.below Ka.out
    have f0 := mA.frozen 0
    have f1 := mA.frozen 1
    have f2 := mA.frozen 2
    have f3 := mA.frozen 3
    have m4 := Lib.hid (mA.put4 (orB (anyE E pre) (E v)))
    have HS : Hid (W.heap.size ≤ wa.heap.size) := Ka.out.size
    obtain ⟨y0, y1, y2, y3, y4, z0, z1, z2, z3⟩ := hHeld
    clear mA h1 h2 hsW
    refine wpAnyM_one (i := 6) (by kernel_rfl) rfl (fun K hK => ?_)
    go_simp
    refine hK.out _ _ (fun h => absurd h (by decide)) (fun _ => ?_)
    clear hK K
    try simp only [Act.put, List.setIfInBounds_toArray, List.set_cons_zero, List.set_cons_succ]
    refine wpAnyM_done (by kernel_rfl) ?_ _
    refine calm_normal ?_
    refine ⟨only_put4 (Only.of_below Ka.out) (.inl rfl) _ _ _ _ 0, ?_⟩
    show MaskAt _ _ (anyE E (pre ++ [x]))
    rw [HX.out]
    exact m4.out
  case done =>
    intro D xs W hD hxs hR hO hK
    have h1 := HS1.out
    have h2 := HS2.out
    have hsW := hO.size
    have e1 := anyE_all (E := E) hxs
    have hR2 : MaskAt W (w.heap.size + 1 + 1 + 1) (acrossB E I) := by rw [← e1]; exact hR
    have c0 := hR2.c0
    have c1 := hR2.c1
    have c2 := hR2.c2
    have c3 := hR2.c3
    have HRR := Lib.hid ((bR.out.below B2.out).only hO (by omega))
    have f0 := HRR.out.frozen 0
    have f1 := HRR.out.frozen 1
    have f2 := HRR.out.frozen 2
    have f3 := HRR.out.frozen 3
    have d0 := HRR.out.c0
    have d1 := HRR.out.c1
    have d2 := HRR.out.c2
    have d3 := HRR.out.c3
    have HO := Lib.hid hO
    have HD := Lib.hid hD
    have HK := Lib.hid hK
    clear hR hR2 e1 h1 h2 hsW hO hxs hD hK
    go_wp2
    have h1 := HS1.out
    have h2 := HS2.out
    have h3 := HD.out
    have hO2 := only_put4 (S := fun k => w.heap.size ≤ k) (HO.out.mono fun k hk => by omega) (g := w.heap.size + 1 + 1) (by omega) (.int .u64 (maskW (acrossB E I) 0)) (.int .u64 (maskW (acrossB E I) 1)) (.int .u64 (maskW (acrossB E I) 2)) (.int .u64 (maskW (acrossB E I) 3)) 0
    have hDk := ((only_put4 (S := fun k => k = w.heap.size + 1 + 1) (Only.refl _ W) (g := w.heap.size + 1 + 1) rfl (.int .u64 (maskW (acrossB E I) 0)) (.int .u64 (maskW (acrossB E I) 1)) (.int .u64 (maskW (acrossB E I) 2)) (.int .u64 (maskW (acrossB E I) 3)) 0).block D (Array.getElem?_eq_some_iff.1 HK.out).1 (by omega)).trans HK.out
    exact leaves_mask (K := acrossB E I) (g := w.heap.size + 1 + 1) rfl rfl (HRR.out.put4 (acrossB E I)) hDk
      ⟨rfl, (HB.out.trans (B2.out.mono HB.out.size)).trans ((hO2.trans ((Only.of_grown (grownBy_putObj' _ D _)).mono fun k hk => by cases hk; omega)).below (by omega) (fun k h => h))⟩
  case stop => intro D c pre W _ _ h _ _; exact h.elim
end
end Go.Proofs.YtphkgnpkcfbnkabDoor
namespace Go.Proofs.YtphkgnpkcfbnkabDoor
open Go.RowKit

section
variable {O E D : List Int} {zss : List (List Int)} {v : Int}
end

end Go.Proofs.YtphkgnpkcfbnkabDoor
namespace Go.Proofs.YtphkgnpkcfbnkabDoor
open Go.RowKit

/-- A struct of two slices that reads as a play. -/
def LassoAt (w : World) (v : Value) (X Y : List Int) : Prop :=
  ∃ ax ay cx cy, v = .agg #[.slice ax X.length cx, .slice ay Y.length cy] ∧ IntsAt w ax X ∧ IntsAt w ay Y
theorem LassoAt.below {w w' : World} {v : Value} {X Y : List Int} (h : LassoAt w v X Y) (hb : Below w.heap.size w w') : LassoAt w' v X Y := by
  obtain ⟨ax, ay, cx, cy, hv, h1, h2⟩ := h
  exact ⟨ax, ay, cx, cy, hv, h1.below hb, h2.below hb⟩

/-- The struct v owns a play. -/
def OwnLasso (w : World) (B D : Nat) (v : Value) (X Y : List Int) : Prop :=
  ∃ vx vy, v = .agg #[vx, vy] ∧ OwnInts w B D vx X ∧ OwnInts w B D vy Y ∧ ∀ g, vx.ownBlock = some g → vy.ownBlock ≠ some g

section
variable {w w' : World} {B B' D : Nat} {v : Value} {X Y : List Int}
theorem OwnLasso.at (h : OwnLasso w B D v X Y) : LassoAt w v X Y := by
  obtain ⟨vx, vy, rfl, h1, h2, _⟩ := h
  obtain ⟨a, c, rfl, hi, _⟩ := h1.shape
  obtain ⟨b, d, rfl, hj, _⟩ := h2.shape
  exact ⟨_, _, _, _, rfl, hi, hj⟩
theorem OwnLasso.only {S : Nat → Prop} (h : OwnLasso w B D v X Y) (hk : Only S w w') (hs : ∀ g, B ≤ g → g < D → ¬ S g) : OwnLasso w' B D v X Y := by
  obtain ⟨vx, vy, hv, h1, h2, h3⟩ := h
  exact ⟨vx, vy, hv, h1.only hk (fun g hg => hs g (h1.own.lt g hg).1 (h1.top g hg)), h2.only hk (fun g hg => hs g (h2.own.lt g hg).1 (h2.top g hg)), h3⟩
theorem OwnLasso.below (h : OwnLasso w B D v X Y) (hb : Below w.heap.size w w') : OwnLasso w' B D v X Y := by
  obtain ⟨vx, vy, hv, h1, h2, h3⟩ := h
  exact ⟨vx, vy, hv, h1.below hb, h2.below hb, h3⟩
theorem OwnLasso.base (h : OwnLasso w B D v X Y) (hB : B' ≤ B) : OwnLasso w B' D v X Y := by
  obtain ⟨vx, vy, hv, h1, h2, h3⟩ := h
  exact ⟨vx, vy, hv, h1.base hB, h2.base hB, h3⟩
theorem OwnLasso.retop (h : OwnLasso w B D v X Y) : OwnLasso w B w.heap.size v X Y := by
  obtain ⟨vx, vy, hv, h1, h2, h3⟩ := h
  exact ⟨vx, vy, hv, h1.retop, h2.retop, h3⟩
theorem OwnLasso.zero (w : World) (B D : Nat) : OwnLasso w B D (.agg #[.slice none 0 0, .slice none 0 0]) [] [] :=
  ⟨_, _, rfl, OwnInts.nil _ _ _, OwnInts.nil _ _ _, fun g hg => by simp [Value.ownBlock] at hg⟩
theorem OwnLasso.shape (h : OwnLasso w B D v X Y) : ∃ a0 c0 a1 c1, v = .agg #[.slice a0 X.length c0, .slice a1 Y.length c1] := by
  obtain ⟨ax, ay, cx, cy, hv, _⟩ := h.at
  exact ⟨_, _, _, _, hv⟩
/-- Two slices of numbers of one's own, one made behind the other. -/
theorem OwnLasso.of_parts {vx vy : Value} {M : Nat} (h : OwnInts w B M vx X) (hp : OwnInts w M D vy Y) (hBM : B ≤ M) (hMD : M ≤ D) : OwnLasso w B D (.agg #[vx, vy]) X Y :=
  ⟨_, _, rfl, ⟨h.own, fun g hg => by have := h.top g hg; omega, h.len, h.fits⟩, hp.base hBM, fun g hg hh => by
    have := h.top g hg
    have := (hp.own.lt g hh).1
    omega⟩
end

end Go.Proofs.YtphkgnpkcfbnkabDoor
