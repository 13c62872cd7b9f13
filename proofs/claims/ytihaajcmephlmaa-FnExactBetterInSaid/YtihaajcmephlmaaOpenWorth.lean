/-
  What an argument of a worth is.
-/
import Derived.Test.YtihaajcmephlmaaPo09
import Derived.Test.YtihaajcmephlmaaKitWorth
namespace Go.Proofs.Ytihaajcmephlmaa
section
open Go.ChangeShapes Go.WideShapes Go.ChangeAt Go.RowKit Go.Deep

set_option maxRecDepth 100000 in
theorem worth_of {H : Type} {enc : TypeId × Value → H} {W : World} {v : Value} {d : DataW H} {p : List MemPlace} {r : Reach} {b0 : Nat} (hv : Value.okWide Try.prog W r b0 56 v) (h : DataW.Trod enc Try.prog W 0 (fun _ => true) true 56 v d p) (hw : ∀ n ∈ d.weights Try.prog 56, n ≤ reachBytes) :
    ∃ h V y, WorthAt W v h V y := by
  obtain ⟨v0, v1, v2, y0, y1, y2, n, rfl, rfl, rfl, h0, h1, h2⟩ := Go.Joins.open_agg3 Try.underlying56 (by kernel_rfl) (by kernel_rfl) hv h
  have hw1 : ∀ n ∈ y1.1.weights Try.prog 27, n ≤ reachBytes := fun n hn => hw n (by simp [DataW.weights, Try.underlying56, DataW.weightsEach, hn])
  obtain ⟨a, V, c, rfl, hV⟩ := ints_of h1 hw1
  obtain ⟨x, hx, _, _⟩ := DataW.trod_int Try.underlying2 h0
  obtain ⟨z, hz, _, _⟩ := DataW.trod_int Try.underlying2 h2
  have ex : v0 = .int .i64 x := by simpa using hx
  have ez : v2 = .int .i64 z := by simpa using hz
  subst ex ez
  exact ⟨x, V, z, a, c, rfl, hV⟩
end
end Go.Proofs.Ytihaajcmephlmaa
