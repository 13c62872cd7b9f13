/-
  Contract: the program's InsideOf.
-/
import Derived.Test.YtjnbpllalbfeiaaWalks1
namespace Go.Proofs.Ytjnbpllalbfeiaa
open Go.RowKit

end Go.Proofs.Ytjnbpllalbfeiaa
