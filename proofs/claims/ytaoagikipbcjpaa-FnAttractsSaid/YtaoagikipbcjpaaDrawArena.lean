/-
  Contract: the draw of a valid arena (l1Draw).
-/
import Derived.Test.YtaoagikipbcjpaaHalf4
import Derived.Deep.RegionHeld3
import Derived.Deep.AppendLies
namespace Go.Proofs.Ytaoagikipbcjpaa
open Go.RowKit

theorem Box2.two_only (wr : World) (r : Nat) (x y : Value) : Only (fun b => b = r) wr ((wr.setCell ⟨r, 0, none⟩ x).setCell ⟨r, 1, none⟩ y) := (Box2.set0_only _).trans (Box2.set1_only _)

end Go.Proofs.Ytaoagikipbcjpaa
