/-
  Contracts of the laws' own helpers: two readings that are alike (eqInt64S, eqInt64SS, eqArena).
-/
import Derived.Test.YtaoagikipbcjpaaSpecArena
namespace Go.Proofs.Ytaoagikipbcjpaa
open Go.RowKit

end Go.Proofs.Ytaoagikipbcjpaa
