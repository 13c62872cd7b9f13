/-
  Contract: the model's l1CopyArena.
-/
import Derived.Test.YthelpfilgamdfaaTurnedMem
namespace Go.Proofs.Ythelpfilgamdfaa
open Go.RowKit

theorem info_rows : (Try.prog.info? 27).map (fun i => (i.zero, i.size, i.bytes)) = some (some (.slice none 0 0), 1, 24) := by kernel_rfl

/-- A call hands back an arena of its own. -/
def GivesArena (w : World) (O : List Int) (zss : List (List Int)) (e : Ending) (w' : World) : Prop :=
  ∃ v, e = .returned v ∧ OwnArena w' w.heap.size w'.heap.size v O zss ∧ Below w.heap.size w w'

end Go.Proofs.Ythelpfilgamdfaa
