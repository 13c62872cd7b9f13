/-
  Contracts of chapter 5: the program's PlanOk and FullIn.
-/
import Derived.Test.YtjnbpllalbfeiaaPlanSpec
import Derived.Test.YtjnbpllalbfeiaaTrap1
namespace Go.Proofs.Ytjnbpllalbfeiaa
open Go.RowKit

theorem askB_none {O : List Int} {zss : List (List Int)} {who : Int} : askB O zss who [] = (arenaB O zss && inB who 0 1) := by simp [askB]
end Go.Proofs.Ytjnbpllalbfeiaa
