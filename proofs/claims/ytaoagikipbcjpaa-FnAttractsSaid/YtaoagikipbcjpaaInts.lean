/-
  The laws' helpers over slices of numbers that are variables.
-/
import Derived.Test.YtaoagikipbcjpaaMark
import Derived.Test.YtaoagikipbcjpaaEq
namespace Go.Proofs.Ytaoagikipbcjpaa
open Go.RowKit

/-- The slice v reads as zs. -/
def IntsV (w : World) (v : Value) (zs : List Int) : Prop := ∃ a cap, v = .slice a zs.length cap ∧ IntsAt w a zs

theorem IntsV.below {w w' : World} {v : Value} {zs : List Int} (h : IntsV w v zs) (hb : Below w.heap.size w w') : IntsV w' v zs := by
  obtain ⟨a, cap, hv, hi⟩ := h
  exact ⟨a, cap, hv, hi.below hb⟩
theorem OwnInts.v {w : World} {B D : Nat} {v : Value} {zs : List Int} (h : OwnInts w B D v zs) : IntsV w v zs := by
  obtain ⟨a, cap, hv, hi, _⟩ := h.shape
  exact ⟨a, cap, hv, hi⟩

end Go.Proofs.Ytaoagikipbcjpaa
