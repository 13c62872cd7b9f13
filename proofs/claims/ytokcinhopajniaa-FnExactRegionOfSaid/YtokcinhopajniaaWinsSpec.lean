/-
  Contracts of chapter 6: the model's CleanIn, WinsBy.
-/
import Derived.Test.YtokcinhopajniaaBadSpec
namespace Go.Proofs.Ytokcinhopajniaa
open Go.RowKit

end Go.Proofs.Ytokcinhopajniaa
