/-
  Several texts in one: FormSpec, AnswerOkSpec.
-/
import Derived.Deep.RegionHeld3
import Derived.Test.YtphkgnpkcfbnkabDoorPk05
import Derived.Test.YtphkgnpkcfbnkabDoorPk10
import Derived.Test.YtphkgnpkcfbnkabDoorWinsSpec
namespace Go.Proofs.YtphkgnpkcfbnkabDoor
open Go.RowKit

end Go.Proofs.YtphkgnpkcfbnkabDoor
namespace Go.Proofs.YtphkgnpkcfbnkabDoor
open Go.RowKit

end Go.Proofs.YtphkgnpkcfbnkabDoor
