/-
  Contract: the model's l1Marked.
-/
import Derived.Test.YthelpfilgamdfaaBools
namespace Go.Proofs.Ythelpfilgamdfaa
open Go.RowKit

end Go.Proofs.Ythelpfilgamdfaa
