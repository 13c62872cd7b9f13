/-
  Contract: the draw for ReachOf.
-/
import Derived.Test.YtaagbnogbhegdaaDrawAny
namespace Go.Proofs.Ytaagbnogbhegdaa
open Go.RowKit

/-- An arena and a slice of numbers, whatever they hold. -/
def GivesDraw (w : World) (e : Ending) (w' : World) : Prop :=
  ∃ v u O zss F, e = .returned (.tuple #[v, u]) ∧ ArenaAt w' v O zss ∧ IntsV w' u F ∧ F.length ≤ 1048576 ∧ O.length ≤ 300 ∧ Below w.heap.size w w'

end Go.Proofs.Ytaagbnogbhegdaa
