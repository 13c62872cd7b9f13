/-
  Contracts of chapter 6: the model's PartOf, AnswerOk.
-/
import Derived.Test.YtokcinhopajniaaGreatDoorFormSpec
import Derived.Test.YtokcinhopajniaaGreatDoorWinsSpec
import Derived.Deep.RegionHeld3
namespace Go.Proofs.YtokcinhopajniaaGreatDoor
open Go.RowKit

/-- What PartOf gives. -/
noncomputable def partL (O : List Int) (zss : List (List Int)) (P X Y : List Int) (who : Int) : List Int := if formB O zss P X Y = true ∧ inB who 0 1 = true then ansP O Y who Y.length else []

noncomputable def ansB (O : List Int) (zss : List (List Int)) (P X Y : List Int) : Bool := formB O zss P X Y && (winsB O zss P 0 (regL X 0) (ansP O Y 0 Y.length) && winsB O zss P 1 (regL X 1) (ansP O Y 1 Y.length))

end Go.Proofs.YtokcinhopajniaaGreatDoor
