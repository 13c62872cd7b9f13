/-
  Contract: the model's LoopsOf.
-/
import Derived.Test.YtokcinhopajniaaGreatDoorLoops
import Derived.Test.YtokcinhopajniaaGreatDoorWalks1
namespace Go.Proofs.YtokcinhopajniaaGreatDoor
open Go.RowKit

open Classical in
/-- What LoopsOf says. -/
noncomputable def loopsL (O : List Int) (zss : List (List Int)) (S : List Int) : List (List Int) := if ArenaP O zss ∧ setB O.length S = true then loopsS zss S else []

end Go.Proofs.YtokcinhopajniaaGreatDoor
