/-
  Contract: the draw for ReachOf.
-/
import Derived.Test.YtaoagikipbcjpaaDrawAny
namespace Go.Proofs.Ytaoagikipbcjpaa
open Go.RowKit

theorem BytesAt.below {w w' : World} {a : Option Addr} {bs : List Int} (h : BytesAt w a bs) (hb : Below w.heap.size w w') : BytesAt w' a bs :=
  ⟨h.len, fun k hk => by
    obtain ⟨b, off, h1, h2, h3⟩ := h.byt k hk
    exact ⟨b, off, h1, Below.cell_some (B := 0) hb rfl h2, h3⟩⟩

/-- An arena and a slice of numbers, whatever they hold. -/
def GivesDraw (w : World) (e : Ending) (w' : World) : Prop :=
  ∃ v u O zss F, e = .returned (.tuple #[v, u]) ∧ ArenaAt w' v O zss ∧ IntsV w' u F ∧ F.length ≤ 1048576 ∧ O.length ≤ 300 ∧ Below w.heap.size w w'

end Go.Proofs.Ytaoagikipbcjpaa
