/-
  From the reading of an argument []int64 to the words of the walks.
-/
import Derived.Test.YthelpfilgamdfaaOpen
namespace Go.Proofs.Ythelpfilgamdfaa
open Go.ChangeShapes Go.WideShapes Go.ChangeAt Go.RowKit Go.Deep

set_option maxRecDepth 100000 in
theorem slice_of {H : Type} {enc : TypeId × Value → H} {W : World} {v : Value} {d : DataW H} {p : List MemPlace} {r : Reach} {b0 : Nat} (hv : Value.okWide Try.prog W r b0 27 v) (h : DataW.Trod enc Try.prog W 0 (fun _ => true) true 27 v d p) (hw : ∀ n ∈ d.weights Try.prog 27, n ≤ reachBytes) :
    ∃ a zs cap, v = .slice a zs.length cap ∧ IntsAt W a zs := by
  obtain ⟨a, len, cap, rfl⟩ := okWide_slice Try.underlying27 hv
  obtain ⟨fuel, hf⟩ := h
  exact ints_of (y := (d, p)) (by simpa [Value.cells] using hf) hw

end Go.Proofs.Ythelpfilgamdfaa
