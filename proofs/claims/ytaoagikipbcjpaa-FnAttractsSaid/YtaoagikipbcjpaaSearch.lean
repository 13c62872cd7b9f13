/-
  Contracts: slices.BinarySearch over a set, the program's indicesIn, the model's l1Place.
-/
import Derived.Test.YtaoagikipbcjpaaTurned
namespace Go.Proofs.Ytaoagikipbcjpaa
open Go.RowKit

/-- The numbers rise. -/
def Rises (zs : List Int) : Prop := ∀ j k, j < k → k < zs.length → nth zs j < nth zs k

theorem rises_of {n : Int} {zs : List Int} (h : setB n zs = true) : Rises zs := fun j _ hjk hk => (setB_bounds h hk).2.2 j hjk

theorem idx_rises {zs : List Int} {x : Int} {k : Nat} (hr : Rises zs) (hk : k < zs.length) (h : nth zs k = x) : idx zs x = k :=
  idx_at hk h fun j hj => by have := hr j k hj hk; omega

theorem less_any (a b : Int) (w : World) : Calls Try.prog 57 #[.int .i64 a, .int .i64 b] w fun e w' => e = .returned (.bool (decide (a < b))) ∧ w = w' := by
  have h1 : (a != a) = false := by simp
  have h2 : (b != b) = false := by simp
  go_enter Try.func57, Try.ntmps57
  go_wp2
  go_ret
  exact ⟨rfl, rfl⟩

theorem less_is {a b : Int} {r : Bool} (hr : decide (a < b) = r) (w : World) : Calls Try.prog 57 #[.int .i64 a, .int .i64 b] w fun e w' => e = .returned (.bool r) ∧ w = w' := by
  subst hr; exact less_any a b w

theorem nan_any (a : Int) (w : World) : Calls Try.prog 76 #[.int .i64 a] w fun e w' => e = .returned (.bool false) ∧ w = w' := by
  have h1 : (a != a) = false := by simp
  go_enter Try.func76, Try.ntmps76
  go_wp2
  go_ret
  exact ⟨rfl, rfl⟩

/-- What BinarySearch hands back. -/
def Found (zs : List Int) (x : Int) (w : World) (e : Ending) (w' : World) : Prop :=
  ∃ i : Int, e = .returned (.tuple #[.int .i64 i, .bool (hasB zs x)]) ∧ (hasB zs x = true → i = idx zs x) ∧ w = w'

theorem found_mk {zs : List Int} {x : Int} {w : World} {i : Int} {b : Bool} (hb : hasB zs x = b) (hi : b = true → i = idx zs x) : Found zs x w (.returned (.tuple #[.int .i64 i, .bool b])) w :=
  ⟨i, by rw [hb], fun h => hi (by rw [← hb]; exact h), rfl⟩

/-- Where the numbers of r stand that S has. -/
def places (S : List Int) : List Int → Nat → List Int
  | _, 0 => []
  | r, k + 1 => places S r k ++ if hasB S (nth r k) then [idx S (nth r k)] else []

theorem places_len (S r : List Int) (k : Nat) : (places S r k).length ≤ k := by
  induction k with
  | zero => simp [places]
  | succ k ih => simp only [places]; split <;> simp <;> omega

theorem idx_bounds {S : List Int} {x : Int} (h : hasB S x = true) : 0 ≤ idx S x ∧ idx S x < S.length := by
  have hm := hasB_iff.1 h
  unfold idx
  rw [if_pos hm]
  have := List.idxOf_lt_length_iff.2 hm
  omega

theorem places_mem (S r : List Int) (k : Nat) : ∀ x ∈ places S r k, 0 ≤ x ∧ x < S.length := by
  induction k with
  | zero => simp [places]
  | succ k ih =>
    intro x hx
    simp only [places, List.mem_append] at hx
    rcases hx with hx | hx
    · exact ih x hx
    · split at hx
      · rename_i h
        simp at hx
        subst hx
        exact idx_bounds h
      · simp at hx

theorem places_fits {S r : List Int} {k : Nat} (hS : S.length ≤ 17592186044416) : ∀ j, j < (places S r k).length → Fits (nth (places S r k) j) := fun j hj => by
  have := places_mem S r k _ (nth_mem hj)
  unfold Fits; omega

end Go.Proofs.Ytaoagikipbcjpaa
