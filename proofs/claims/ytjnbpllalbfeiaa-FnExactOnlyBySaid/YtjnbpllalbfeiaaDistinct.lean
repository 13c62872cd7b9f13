/-
  Contracts: slices.Min and slices.Max over a slice of numbers that is not empty.
-/
import Derived.Test.YtjnbpllalbfeiaaBase1
import Derived.Shelf.SlGeneric
import Derived.Shelf.SlicesE.Compact
import Derived.Ground.SlgnProg
import Derived.Test.YtjnbpllalbfeiaaProg
import Derived.RangeFuncBox
import Derived.RangeFuncLeaves
import Derived.RangeFuncBound
import Derived.Shelf.Abstract
import Derived.WalkKit
import Derived.OwnWalkIn
import Derived.TacticsInMore
import Derived.LoopNIn
import Derived.LoopIn
import Derived.Maps.AppendAt
import Derived.Lib.OwnBridge
import Derived.Test.YtjnbpllalbfeiaaCat1
import Derived.Test.YtjnbpllalbfeiaaParity1
namespace Go.Proofs.Ytjnbpllalbfeiaa
section
open Go.RowKit

/-- The greatest of the first k + 1. -/
def maxN (zs : List Int) : Nat → Int
  | 0 => nth zs 0
  | k + 1 => if maxN zs k < nth zs (k + 1) then nth zs (k + 1) else maxN zs k
/-- The least of the first k + 1. -/
def minN (zs : List Int) : Nat → Int
  | 0 => nth zs 0
  | k + 1 => if nth zs (k + 1) < minN zs k then nth zs (k + 1) else minN zs k
theorem maxN_ge {zs : List Int} : ∀ {k j : Nat}, j ≤ k → nth zs j ≤ maxN zs k
  | 0, j, h => by have : j = 0 := by omega
                  subst this; exact Int.le_refl _
  | k + 1, j, h => by
    rw [maxN]
    by_cases e : j = k + 1
    · subst e; split <;> omega
    · have := maxN_ge (zs := zs) (k := k) (j := j) (by omega); split <;> omega
theorem maxN_at {zs : List Int} : ∀ k, ∃ j, j ≤ k ∧ nth zs j = maxN zs k
  | 0 => ⟨0, Nat.le_refl _, rfl⟩
  | k + 1 => by
    rw [maxN]
    obtain ⟨j, hj, e⟩ := maxN_at (zs := zs) k
    by_cases h : maxN zs k ≤ nth zs (k + 1)
    · exact ⟨k + 1, Nat.le_refl _, by split <;> omega⟩
    · exact ⟨j, by omega, by split <;> omega⟩
theorem minN_le {zs : List Int} : ∀ {k j : Nat}, j ≤ k → minN zs k ≤ nth zs j
  | 0, j, h => by have : j = 0 := by omega
                  subst this; exact Int.le_refl _
  | k + 1, j, h => by
    rw [minN]
    by_cases e : j = k + 1
    · subst e; split <;> omega
    · have := minN_le (zs := zs) (k := k) (j := j) (by omega); split <;> omega
theorem minN_at {zs : List Int} : ∀ k, ∃ j, j ≤ k ∧ nth zs j = minN zs k
  | 0 => ⟨0, Nat.le_refl _, rfl⟩
  | k + 1 => by
    rw [minN]
    obtain ⟨j, hj, e⟩ := minN_at (zs := zs) k
    by_cases h : nth zs (k + 1) ≤ minN zs k
    · exact ⟨k + 1, Nat.le_refl _, by split <;> omega⟩
    · exact ⟨j, by omega, by split <;> omega⟩

set_option maxHeartbeats 2000000 in
set_option maxRecDepth 100000 in
theorem Max_is {w : World} {a : Option Addr} {zs : List Int} {m : Int} (cap : Nat) (hm : maxN zs (zs.length - 1) = m) (h : IntsAt w a zs) (hz : 0 < zs.length) :
    Calls Try.prog 36 #[.slice a zs.length cap] w fun e w' => e = .returned (.int .i64 m) ∧ w = w' := by
  have hlen := h.len
  obtain ⟨b, off, ha, hc⟩ := h.cell hz
  subst ha
  have h0 := hc 0 hz
  rw [Nat.add_zero] at h0
  have HC := Lib.hid hc
  have HM := Lib.hid hm
  obtain ⟨n, hn⟩ : ∃ n, n = zs.length := ⟨_, rfl⟩
  rw [← hn] at hlen hz ⊢
  have HN := Lib.hid hn
  have h1 : ¬ (n : Int) < 1 := by omega
  have h2 : (0 : Int) < n := by omega
  clear hc hm h hn
  go_enter Try.func36, Try.ntmps36
  go_wp2
  go_loopw [3, 4] (fun mv iv wr => ∃ k : Nat, k + 1 ≤ n ∧ iv = .int .i64 ((k : Int) + 1) ∧ mv = .int .i64 (maxN zs k) ∧ wr = w) (fun _ iv _ => n + 1 - (intOf iv).toNat)
  case atStart => exact ⟨0, by omega, rfl, rfl, rfl⟩
  case round =>
    obtain ⟨k, hk, rfl, rfl, rfl⟩ := hrel
    by_cases hlt : k + 1 < n
    · have hi1 : (k : Int) + 1 < n := by omega
      have hi0 : (0 : Int) ≤ (k : Int) + 1 := by omega
      have hw : IntKind.i64.wrap ((k : Int) + 1 + 1) = (k : Int) + 1 + 1 := IntWalk.i64_in _ (by omega)
      have ht : ((k : Int) + 1).toNat = k + 1 := by omega
      have c1 := HC.out (k + 1) (by have := HN.out; omega)
      have HS : Hid (maxN zs (k + 1) = if maxN zs k < nth zs (k + 1) then nth zs (k + 1) else maxN zs k) := rfl
      obtain ⟨q, hq⟩ : ∃ q, q = maxN zs k := ⟨_, rfl⟩
      obtain ⟨x, hx⟩ : ∃ x, x = nth zs (k + 1) := ⟨_, rfl⟩
      rw [← hq, ← hx] at HS
      rw [← hx] at c1
      rw [← hq]
      clear hq hx
      go_wp2
      go_roundw
      case rel => exact ⟨k + 1, by omega, by go_num, by rw [HS.out]; first | done | (congr 1; split <;> omega), by first | rfl | trivial⟩
      case measure => simp [intOf]; omega
    · have hi1 : ¬ (k : Int) + 1 < n := by omega
      have HE : Hid (maxN zs k = m) := by rw [← HM.out, show zs.length - 1 = k by have := HN.out; omega]; rfl
      go_wp2
      go_ret
      exact ⟨ret_i64 HE.out, rfl⟩

set_option maxHeartbeats 2000000 in
set_option maxRecDepth 100000 in
theorem Min_is {w : World} {a : Option Addr} {zs : List Int} {m : Int} (cap : Nat) (hm : minN zs (zs.length - 1) = m) (h : IntsAt w a zs) (hz : 0 < zs.length) :
    Calls Try.prog 35 #[.slice a zs.length cap] w fun e w' => e = .returned (.int .i64 m) ∧ w = w' := by
  have hlen := h.len
  obtain ⟨b, off, ha, hc⟩ := h.cell hz
  subst ha
  have h0 := hc 0 hz
  rw [Nat.add_zero] at h0
  have HC := Lib.hid hc
  have HM := Lib.hid hm
  obtain ⟨n, hn⟩ : ∃ n, n = zs.length := ⟨_, rfl⟩
  rw [← hn] at hlen hz ⊢
  have HN := Lib.hid hn
  have h1 : ¬ (n : Int) < 1 := by omega
  have h2 : (0 : Int) < n := by omega
  clear hc hm h hn
  go_enter Try.func35, Try.ntmps35
  go_wp2
  go_loopw [3, 4] (fun mv iv wr => ∃ k : Nat, k + 1 ≤ n ∧ iv = .int .i64 ((k : Int) + 1) ∧ mv = .int .i64 (minN zs k) ∧ wr = w) (fun _ iv _ => n + 1 - (intOf iv).toNat)
  case atStart => exact ⟨0, by omega, rfl, rfl, rfl⟩
  case round =>
    obtain ⟨k, hk, rfl, rfl, rfl⟩ := hrel
    by_cases hlt : k + 1 < n
    · have hi1 : (k : Int) + 1 < n := by omega
      have hi0 : (0 : Int) ≤ (k : Int) + 1 := by omega
      have hw : IntKind.i64.wrap ((k : Int) + 1 + 1) = (k : Int) + 1 + 1 := IntWalk.i64_in _ (by omega)
      have ht : ((k : Int) + 1).toNat = k + 1 := by omega
      have c1 := HC.out (k + 1) (by have := HN.out; omega)
      have HS : Hid (minN zs (k + 1) = if nth zs (k + 1) < minN zs k then nth zs (k + 1) else minN zs k) := rfl
      obtain ⟨q, hq⟩ : ∃ q, q = minN zs k := ⟨_, rfl⟩
      obtain ⟨x, hx⟩ : ∃ x, x = nth zs (k + 1) := ⟨_, rfl⟩
      rw [← hq, ← hx] at HS
      rw [← hx] at c1
      rw [← hq]
      clear hq hx
      go_wp2
      go_roundw
      case rel => exact ⟨k + 1, by omega, by go_num, by rw [HS.out]; first | done | (congr 1; split <;> omega), by first | rfl | trivial⟩
      case measure => simp [intOf]; omega
    · have hi1 : ¬ (k : Int) + 1 < n := by omega
      have HE : Hid (minN zs k = m) := by rw [← HM.out, show zs.length - 1 = k by have := HN.out; omega]; rfl
      go_wp2
      go_ret
      exact ⟨ret_i64 HE.out, rfl⟩
end

section
open Go.Shelf
end

section
open Go.RowKit Go.Shelf Go.Sort

attribute [local go_sem] Oper.semAt_some

theorem take_next {zs : List Int} {k : Nat} (h : k < zs.length) : zs.take (k + 1) = zs.take k ++ [nth zs k] := by
  rw [List.take_add_one, List.getElem?_eq_getElem h, nth_eq h]; rfl

/-- The different numbers, in ascending order. -/
def distL (zs : List Int) : List Int := compL (zs.mergeSort fun x y => decide (x ≤ y))
theorem distL_spec (zs : List Int) : (distL zs).Pairwise (· < ·) ∧ ∀ x, x ∈ distL zs ↔ x ∈ zs := by
  obtain ⟨m, hm⟩ : ∃ m, zs.mergeSort (fun x y => decide (x ≤ y)) = m := ⟨_, rfl⟩
  have hp := List.pairwise_mergeSort (le := fun x y : Int => decide (x ≤ y)) (fun a b c h1 h2 => by simp at *; omega) (fun a b => by simp; omega) zs
  unfold distL
  rw [hm] at hp ⊢
  have hs : ∀ i j, i ≤ j → j < m.length → nth m i ≤ nth m j := fun i j hij hj => by
    by_cases e : i = j
    · subst e; omega
    · have := List.pairwise_iff_getElem.1 hp i j (by omega) hj (by omega)
      rw [nth_eq (by omega), nth_eq hj]; simpa using this
  obtain ⟨h1, h2⟩ := comp_spec hs m.length (Nat.le_refl _)
  refine ⟨h1, fun x => ?_⟩
  unfold compL
  rw [h2 x, ← mem_nth, ← hm, List.mem_mergeSort]
theorem distL_len (zs : List Int) : (distL zs).length ≤ zs.length := by
  have := comp_len (zs.mergeSort fun x y => decide (x ≤ y))
  rw [List.length_mergeSort] at this
  exact this

end

end Go.Proofs.Ytjnbpllalbfeiaa
