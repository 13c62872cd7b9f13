/-
  errors.As by its contract, at the program's own type violation.
-/
import Derived.Test.YtokcinhopajniaaGreatDoorProg
import Derived.WalkKit
import Derived.LaidEql
import Derived.Stop.Asserts
import Derived.RowKitTokens
namespace Go.Proofs.YtokcinhopajniaaGreatDoor
open Go.RowKit Go.Extern.Stop Go.Stop Go.Extern

/-! ### errors.As at a violation: closed facts on the model's entries -/
/-- What the library's own variable holds: the type of errors. -/
def HandleAt (w : World) : Prop := w.cell? ⟨3, 0, none⟩ = some (.iface 160 (.agg #[.pointer (some ⟨4, 75, none⟩)]))

end Go.Proofs.YtokcinhopajniaaGreatDoor
