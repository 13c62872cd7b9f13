/-
  An argument of the type Answer, as it reads.
-/
import Derived.Test.YtokcinhopajniaaOpen
namespace Go.Proofs.Ytokcinhopajniaa
open Go.ChangeShapes Go.WideShapes Go.ChangeAt Go.RowKit Go.Deep

set_option maxRecDepth 100000 in
theorem answer_of {H : Type} {enc : TypeId × Value → H} {W : World} {v : Value} {d : DataW H} {p : List MemPlace} {r : Reach} {b0 : Nat} (hv : Value.okWide Try.prog W r b0 24 v) (h : DataW.Trod enc Try.prog W 0 (fun _ => true) true 24 v d p) (hw : ∀ n ∈ d.weights Try.prog 24, n ≤ reachBytes) :
    ∃ X Y, LassoAt W v X Y := by
  obtain ⟨v0, v1, y0, y1, n, rfl, rfl, rfl, h0, h1⟩ := Go.Joins.open_agg2 Try.underlying24 (by kernel_rfl) (by kernel_rfl) hv h
  have hw0 : ∀ n ∈ y0.1.weights Try.prog 22, n ≤ reachBytes := fun n hn => hw n (by simp [DataW.weights, Try.underlying24, DataW.weightsEach, hn])
  have hw1 : ∀ n ∈ y1.1.weights Try.prog 22, n ≤ reachBytes := fun n hn => hw n (by simp [DataW.weights, Try.underlying24, DataW.weightsEach, hn])
  obtain ⟨ax, X, cx, rfl, hX⟩ := ints_of h0 hw0
  obtain ⟨ay, Y, cy, rfl, hY⟩ := ints_of h1 hw1
  exact ⟨X, Y, ax, ay, cx, cy, rfl, hX, hY⟩

end Go.Proofs.Ytokcinhopajniaa
