/-
  Contracts: the model's l1Everywhere, l1Marked.
-/
import Derived.Test.YtkfmaajhemijlaaReach
namespace Go.Proofs.Ytkfmaajhemijlaa
open Go.RowKit

theorem info_bool : (Try.prog.info? 4).map (fun i => (i.zero, i.size, i.bytes)) = some (some (.bool false), 1, 1) := by kernel_rfl

/-- What a row of marks reads as. -/
def marksV (xs : Nat → Bool) : Nat → Value := fun i => .bool (xs i)

theorem marks_set {w : World} {b n v : Nat} {t : TypeId} {xs : Nat → Bool} {c : Bool} (h : w.rowIs b t n (marksV xs)) : (w.setCell ⟨b, v, none⟩ (.bool c)).rowIs b t n (marksV (mark1 xs v c)) := by
  refine (h.set v _).congr fun i _ => ?_
  simp only [marksV, mark1]
  by_cases e : i = v
  · subst e; simp
  · simp [e]

set_option maxHeartbeats 1000000 in
theorem l1Everywhere_is (n : Nat) (hn : n ≤ 1048576) (w : World) :
    Calls Try.prog 51 #[.int .i64 n] w fun e w' => e = .returned (.slice (some ⟨w.heap.size, 0, none⟩) n n) ∧
      w'.rowIs w.heap.size 4 n (marksV fun _ => true) ∧ Below w.heap.size w w' := by
  have hmk := run_make_row' (P := Try.prog) 70 4 (.bool false) 1 Try.underlying70 info_bool rfl .i64 .i64 n (by omega) (by omega)
  go_enter Try.func51, Try.ntmps51
  go_wp2
  go_loopw [4] (fun i wr => ∃ k : Nat, k ≤ n ∧ i = .int .i64 k ∧ Hid (wr.rowIs w.heap.size 4 n (marksV fun i => decide (i < k))) ∧ Hid (Below w.heap.size w wr)) (fun i _ => n - (intOf i).toNat)
  case atStart => exact ⟨0, Nat.zero_le _, rfl, (World.rowIs_made _ _ _ _).congr (fun i _ => by simp [marksV]), below1 _ _⟩
  case round =>
    clear hmk
    obtain ⟨k, hk, rfl, HR, HB⟩ := hrel
    by_cases hlt : k < n
    · have hcs := HR.out.cell hlt
      have hcf := HR.out.frozen k
      have hi1 : (k : Int) < n := by omega
      go_wp2
      go_roundw
      case rel => exact ⟨k + 1, by omega, by go_num, (marks_set HR.out).congr (fun i _ => by simp only [marksV, mark1]; by_cases e : i = k; (subst e; simp); (simp [e]; omega)), HB.out.setCell (Nat.le_refl _) _⟩
      case measure => simp [intOf]; omega
    · have HE : Hid (wr.rowIs w.heap.size 4 n (marksV fun _ => true)) := HR.out.congr fun i hi => by simp only [marksV]; simp; omega
      have hi1 : ¬ (k : Int) < n := by omega
      go_wp2
      go_ret
      exact ⟨rfl, HE.out, HB.out⟩

end Go.Proofs.Ytkfmaajhemijlaa
