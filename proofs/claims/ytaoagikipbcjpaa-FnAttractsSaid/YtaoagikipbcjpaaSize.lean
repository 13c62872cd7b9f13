/-
  Contracts of the laws' own helpers: the sizes of arguments (szInt64S, szInt64SS, szArena).
-/
import Derived.Test.YtaoagikipbcjpaaSpecArena
namespace Go.Proofs.Ytaoagikipbcjpaa
open Go.RowKit

/-- What is left of 'left' behind n: -1 if there is not enough. -/
def leftOf (left : Int) (n : Nat) : Int := if left < n then -1 else left - n

theorem leftOf_no {left : Int} {n : Nat} (h : left < n) : leftOf left n = -1 := by simp [leftOf, h]
theorem leftOf_yes {left : Int} {n : Nat} (h : (n : Int) ≤ left) : leftOf left n = left - n := by unfold leftOf; rw [if_neg (by omega)]

/-- How many numbers the first k rows hold. -/
def sumLen (zss : List (List Int)) : Nat → Nat
  | 0 => 0
  | k + 1 => sumLen zss k + (row zss k).length

theorem sumLen_mono (zss : List (List Int)) {j k : Nat} (h : j ≤ k) : sumLen zss j ≤ sumLen zss k := by
  induction k with
  | zero => obtain rfl : j = 0 := by omega
            exact Nat.le_refl _
  | succ k ih =>
    by_cases e : j = k + 1
    · subst e; exact Nat.le_refl _
    · have := ih (by omega); simp only [sumLen]; omega


/-- How many places an arena takes. -/
def sizeArena (O : List Int) (zss : List (List Int)) : Nat := O.length + (zss.length + sumLen zss zss.length)

theorem sizeArena_rows {O : List Int} {zss : List (List Int)} {m : Int} (h : (sizeArena O zss : Int) ≤ m) : (zss.length : Int) ≤ m := by unfold sizeArena at h; omega

end Go.Proofs.Ytaoagikipbcjpaa
