/-
  Contracts: laws.big, laws.likeInts; the draws of two sets.
-/
import Derived.Test.YtaoagikipbcjpaaDraws
import Derived.Test.YtaoagikipbcjpaaAll
namespace Go.Proofs.Ytaoagikipbcjpaa
open Go.RowKit

set_option maxHeartbeats 1000000 in
theorem likeInts_yes {a c : Option Addr} {zs : List Int} (w : World) (ca cc : Nat) (ha : IntsAt w a zs) (hc : IntsAt w c zs) :
    Calls Try.prog 12 #[.slice a zs.length ca, .slice c zs.length cc] w fun e w' => e = .returned (.bool true) ∧ ∃ q, w' = w.drewN q := by
  have hlen := ha.len
  have HA := Lib.hid ha
  have HC := Lib.hid hc
  clear ha hc
  have hne : ((zs.length : Int) != (zs.length : Int)) = false := by simp
  go_enter Try.func12, Try.ntmps12
  go_wp2
  go_loopw [5] (fun i wr => ∃ k : Nat, k ≤ zs.length ∧ i = .int .i64 k ∧ Hid (∃ q, wr = w.drewN q)) (fun i _ => zs.length - (intOf i).toNat)
  case atStart => exact ⟨0, Nat.zero_le _, rfl, 0, rfl⟩
  case round =>
    obtain ⟨k, hk, rfl, HW⟩ := hrel
    by_cases hlt : k < zs.length
    · obtain ⟨b, off, e1, h1⟩ := (HA.out.same HW.out).cell (by omega)
      obtain ⟨b2, off2, e2, h2⟩ := (HC.out.same HW.out).cell (by omega)
      subst e1
      subst e2
      have hck := h1 k hlt
      have hck2 := h2 k hlt
      clear h1 h2
      have hi1 : (k : Int) < zs.length := by omega
      have hn : (nth zs k != nth zs k) = false := by simp
      go_wp2
      go_quiet (fail)
      go_wp2
      go_roundw
      case rel => exact ⟨k + 1, by omega, by go_num, drewn HW.out⟩
      case measure => simp [intOf]; omega
    · go_wp2
      go_ret
      exact ⟨rfl, HW.out⟩

theorem likeInts_at {w : World} {v v' : Value} {zs : List Int} (h : IntsV w v zs) (h' : IntsV w v' zs) :
    Calls Try.prog 12 #[v, v'] w fun e w' => e = .returned (.bool true) ∧ Below w.heap.size w w' := by
  obtain ⟨a, cap, rfl, hi⟩ := h
  obtain ⟨a', cap', rfl, hi'⟩ := h'
  exact (likeInts_yes w cap cap' hi hi').mono fun e w' ⟨he, hq⟩ => ⟨he, below_same (Below.refl _ _) hq⟩

theorem big_is {w : World} {ab : Option Addr} {n cb : Nat} {r : Bool} (hr : decide (4096 < (n : Int)) = r) :
    Calls Try.prog 4 #[.slice ab n cb] w fun e w' => e = .returned (.bool r) ∧ w = w' := by
  by_cases h : 4096 < (n : Int)
  · have HR : Hid (r = true) := by rw [← hr]; exact decide_eq_true h
    clear hr
    go_enter Try.func4, Try.ntmps4
    go_wp2
    go_ret
    exact ⟨ret_bool HR.out.symm, rfl⟩
  · have HR : Hid (r = false) := by rw [← hr]; exact decide_eq_false h
    clear hr
    go_enter Try.func4, Try.ntmps4
    go_wp2
    go_ret
    exact ⟨ret_bool HR.out.symm, rfl⟩

theorem allL_len (n : Int) : (allL n).length ≤ 256 := by
  unfold allL
  split
  · rw [upL_len]; omega
  · simp

/-- Two slices of one's own. -/
def GivesTwo (w : World) (e : Ending) (w' : World) : Prop :=
  ∃ u v S T, e = .returned (.tuple #[u, v]) ∧ OwnInts w' w.heap.size w'.heap.size u S ∧ OwnInts w' w.heap.size w'.heap.size v T ∧ S.length ≤ 301 ∧ T.length ≤ 301 ∧ Below w.heap.size w w'

end Go.Proofs.Ytaoagikipbcjpaa
