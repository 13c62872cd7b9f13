/-
  Contract: the program's InsideOf.
-/
import Derived.Test.YtaagbnogbhegdaaWalks1
namespace Go.Proofs.Ytaagbnogbhegdaa
open Go.RowKit

end Go.Proofs.Ytaagbnogbhegdaa
