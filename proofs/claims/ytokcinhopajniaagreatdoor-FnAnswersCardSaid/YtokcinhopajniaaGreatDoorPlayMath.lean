/-
  The play of two full plans. No program text.
-/
import Derived.Test.YtokcinhopajniaaGreatDoorPlanSpec
import Derived.Test.YtokcinhopajniaaGreatDoorZielonka
import Derived.Test.YtokcinhopajniaaGreatDoorWalks1
namespace Go.Proofs.YtokcinhopajniaaGreatDoor
open Go.RowKit

section
variable {O E D : List Int} {zss : List (List Int)} {v : Int}
end

end Go.Proofs.YtokcinhopajniaaGreatDoor
