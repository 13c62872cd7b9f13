/-
  Contracts: the model's l1Everywhere, l1Marked.
-/
import Derived.Test.YtaoagikipbcjpaaReach
namespace Go.Proofs.Ytaoagikipbcjpaa
open Go.RowKit

theorem info_bool : (Try.prog.info? 4).map (fun i => (i.zero, i.size, i.bytes)) = some (some (.bool false), 1, 1) := by kernel_rfl

/-- What a row of marks reads as. -/
def marksV (xs : Nat → Bool) : Nat → Value := fun i => .bool (xs i)

theorem marks_set {w : World} {b n v : Nat} {t : TypeId} {xs : Nat → Bool} {c : Bool} (h : w.rowIs b t n (marksV xs)) : (w.setCell ⟨b, v, none⟩ (.bool c)).rowIs b t n (marksV (mark1 xs v c)) := by
  refine (h.set v _).congr fun i _ => ?_
  simp only [marksV, mark1]
  by_cases e : i = v
  · subst e; simp
  · simp [e]

end Go.Proofs.Ytaoagikipbcjpaa
