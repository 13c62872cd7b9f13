/-
  Contracts: is a number in a slice (l1Has, slices.Index, slices.Contains), is a number a vertex, EdgeIn and its model.
-/
import Derived.Test.YtmobegiojhlakaaSpecArena
namespace Go.Proofs.Ytmobegiojhlakaa
open Go.RowKit

set_option maxHeartbeats 400000 in
theorem Index_is {a : Option Addr} {zs : List Int} {x i : Int} (hr : idx zs x = i) (cap : Nat) (w : World) (h : IntsAt w a zs) :
    Calls Try.prog 97 #[.slice a zs.length cap, .int .i64 x] w fun e w' => e = .returned (.int .i64 i) ∧ w = w' := by
  obtain ⟨hlen, _, hcell⟩ := h
  have HR := Lib.hid hr
  have HC := Lib.hid hcell
  clear hcell hr
  go_enter Try.func97, Try.ntmps97
  go_wp2
  go_loop [8] (fun i => ∃ k : Nat, k ≤ zs.length ∧ i = .int .i64 k ∧ Hid (∀ j, j < k → nth zs j ≠ x)) (fun i => zs.length - (intOf i).toNat)
  case atStart => exact ⟨0, Nat.zero_le _, rfl, fun j hj => absurd hj (Nat.not_lt_zero _)⟩
  case round =>
    obtain ⟨k, hk, rfl, HK⟩ := hrel
    by_cases hlt : k < zs.length
    · obtain ⟨b, off, ha, hc⟩ := HC.out (by omega)
      subst ha
      have hck := hc k hlt
      clear hc
      by_cases he : x = nth zs k
      · have HE : Hid ((k : Int) = i) := by rw [← HR.out]; exact (idx_at hlt he.symm HK.out).symm
        have he' : (x == nth zs k) = true := by simp [he]
        clear he
        go_wp2
        go_ret
        exact ⟨ret_i64 HE.out, rfl⟩
      · have HE : Hid (∀ j, j < k + 1 → nth zs j ≠ x) := fun j hj => by
          by_cases hj' : j < k
          · exact HK.out j hj'
          · obtain rfl : j = k := by omega
            exact fun e => he e.symm
        have he' : (x == nth zs k) = false := by simp [he]
        clear he
        go_wp2
        go_round
        case rel => exact ⟨k + 1, by omega, by go_num, HE⟩
        case measure => simp [intOf]; omega
    · have HE : Hid (i = -1) := by rw [← HR.out]; exact idx_none fun j hj => HK.out j (by omega)
      go_wp2
      go_ret
      exact ⟨ret_i64 HE.out.symm, rfl⟩

theorem idx_has (zs : List Int) (x : Int) : decide (0 ≤ idx zs x) = hasB zs x := by
  unfold idx hasB
  by_cases h : x ∈ zs
  · rw [if_pos h]; simp [h]
  · rw [if_neg h]; simp [h]

set_option maxHeartbeats 400000 in
theorem Contains_is {a : Option Addr} {zs : List Int} {x : Int} {r : Bool} (hr : hasB zs x = r) (cap : Nat) (w : World) (h : IntsAt w a zs) :
    Calls Try.prog 56 #[.slice a zs.length cap, .int .i64 x] w fun e w' => e = .returned (.bool r) ∧ w = w' := by
  obtain ⟨i, hi⟩ : ∃ i, idx zs x = i := ⟨_, rfl⟩
  have HE : Hid (decide (0 ≤ i) = r) := by rw [← hr, ← idx_has, hi]; rfl
  have HC := Lib.hid (Index_is hi cap w h)
  clear hr hi h
  go_enter Try.func56, Try.ntmps56
  go_wp2_with (go_at_call 97; refine HC.out.mono ?_; rintro e w' ⟨rfl, rfl⟩)
  go_ret
  exact ⟨ret_bool HE.out, rfl⟩

/-- Is v a vertex of an arena of n vertices? -/
def thereB (n : Nat) (v : Int) : Bool := decide (0 ≤ v ∧ v < n)

theorem thereB_in (n : Nat) (x : Int) : inB x 0 ((n : Int) - 1) = thereB n x := by
  unfold inB thereB
  exact decide_eq_decide.2 (by omega)

noncomputable def edgeB (O : List Int) (zss : List (List Int)) (v u : Int) : Bool := arenaB O zss && (thereB O.length v && hasB (row zss v.toNat) u)

theorem there_nat {n : Nat} {v : Int} (h : thereB n v = true) : ∃ k : Nat, v = k ∧ k < n := by
  simp only [thereB, decide_eq_true_eq] at h
  exact ⟨v.toNat, by omega, by omega⟩

end Go.Proofs.Ytmobegiojhlakaa
