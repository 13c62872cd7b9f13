/-
  Contracts: is a number in a slice (l1Has, slices.Index, slices.Contains), is a number a vertex, EdgeIn and its model.
-/
import Derived.Test.YtaoagikipbcjpaaSpecArena
namespace Go.Proofs.Ytaoagikipbcjpaa
open Go.RowKit

set_option maxHeartbeats 400000 in
theorem l1Has_is {a : Option Addr} {zs : List Int} {x : Int} {r : Bool} (hr : hasB zs x = r) (cap : Nat) (w : World) (h : IntsAt w a zs) :
    Calls Try.prog 30 #[.slice a zs.length cap, .int .i64 x] w fun e w' => e = .returned (.bool r) ∧ w = w' := by
  obtain ⟨hlen, _, hcell⟩ := h
  have HR := Lib.hid hr
  have HC := Lib.hid hcell
  clear hcell hr
  go_enter Try.func30, Try.ntmps30
  go_wp2
  go_loop [5] (fun i => ∃ k : Nat, k ≤ zs.length ∧ i = .int .i64 k ∧ Hid (∀ j, j < k → nth zs j ≠ x)) (fun i => zs.length - (intOf i).toNat)
  case atStart => exact ⟨0, Nat.zero_le _, rfl, fun j hj => absurd hj (Nat.not_lt_zero _)⟩
  case round =>
    obtain ⟨k, hk, rfl, HK⟩ := hrel
    by_cases hlt : k < zs.length
    · obtain ⟨b, off, ha, hc⟩ := HC.out (by omega)
      subst ha
      have hck := hc k hlt
      clear hc
      by_cases he : nth zs k = x
      · have HE : Hid (r = true) := by rw [← HR.out]; exact hasB_yes hlt he
        have he' : (nth zs k == x) = true := by simp [he]
        clear he
        go_wp2
        go_ret
        exact ⟨ret_bool HE.out.symm, rfl⟩
      · have HE : Hid (∀ j, j < k + 1 → nth zs j ≠ x) := fun j hj => by
          by_cases hj' : j < k
          · exact HK.out j hj'
          · obtain rfl : j = k := by omega
            exact he
        have he' : (nth zs k == x) = false := by simp [he]
        clear he
        go_wp2
        go_round
        case rel => exact ⟨k + 1, by omega, by go_num, HE⟩
        case measure => simp [intOf]; omega
    · have HE : Hid (r = false) := by rw [← HR.out]; exact hasB_no fun j hj => HK.out j (by omega)
      go_wp2
      go_ret
      exact ⟨ret_bool HE.out.symm, rfl⟩

theorem idx_has (zs : List Int) (x : Int) : decide (0 ≤ idx zs x) = hasB zs x := by
  unfold idx hasB
  by_cases h : x ∈ zs
  · rw [if_pos h]; simp [h]
  · rw [if_neg h]; simp [h]

/-- Is v a vertex of an arena of n vertices? -/
def thereB (n : Nat) (v : Int) : Bool := decide (0 ≤ v ∧ v < n)

theorem thereB_in (n : Nat) (x : Int) : inB x 0 ((n : Int) - 1) = thereB n x := by
  unfold inB thereB
  exact decide_eq_decide.2 (by omega)

noncomputable def edgeB (O : List Int) (zss : List (List Int)) (v u : Int) : Bool := arenaB O zss && (thereB O.length v && hasB (row zss v.toNat) u)

theorem there_nat {n : Nat} {v : Int} (h : thereB n v = true) : ∃ k : Nat, v = k ∧ k < n := by
  simp only [thereB, decide_eq_true_eq] at h
  exact ⟨v.toNat, by omega, by omega⟩

end Go.Proofs.Ytaoagikipbcjpaa
