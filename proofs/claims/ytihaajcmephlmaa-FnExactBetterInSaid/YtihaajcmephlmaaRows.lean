/-
  No cell of these rows narrows 'for every input' (looked for: loops, veiled, ifaces, maps, wideKeys, modest, calm, conditions, laid).
  DERIVED. THE GIVEN ROWS OF THIS SEAT. 6 by the template 'for every input the law returns true; each argument reads behind the call as it read before'; 0 by the template 'total and deterministic' (their statements: YtihaajcmephlmaaTotals.lean).
  GIVEN WITH THE SEED: the statements are not yours to turn. If you find one false, say at which input.
  Laid BY PROGRAM, IN A SANDBOX (cutbox-rows.mjs): the forced cells as the released guide's own fill.sh prints them over the translation 3d1827b0bd3841d7… (all of the seat's roots in one cut). By AI agents, Wed Nov 11 2026. No macro, syntax, notation, axiom, sorry.
-/
import Derived.Test.YtihaajcmephlmaaChecked
import GoSem.Claim
import GoSem.ClaimJoined
import GoSem.ClaimMapViews
import Derived.JoinedTies
import Derived.KernelRfl
namespace Go.Proofs.Ytihaajcmephlmaa
/- THE CELL 'sum', in the pinned program and in every row, IS THE sha256 OF THE DUMP (.gsa) THAT YtihaajcmephlmaaProg.lean LOADS. Nothing in Lean hashes anything: it is a label: what it is worth is what the hold of that sum in a sandbox is worth. -/
noncomputable def Try.pinned : Pinned := { name := "ytihaajcmephlmaa", sum := "3d1827b0bd3841d780d79a9c8aeea14c8544c1c944707e6105e6bc1590d62a10", checked := Try.checked }
namespace Rows
def none {H : Type} : Left H := { results := [], args := [] }

/-- 'laws.FnWorths': WHATEVER THE INPUT: true; the input reads as it did. -/
def fnWorthsSpec : ChangeSpec := { name := "fnWorths", fn := fun _ => fun
  | [d] => { results := [.lit (.bool true)], args := [d] }
  | _ => none }
def fnWorthsRow : OpenClaim := { program := "ytihaajcmephlmaa", sum := "3d1827b0bd3841d780d79a9c8aeea14c8544c1c944707e6105e6bc1590d62a10", func := "loop.example/g00869/laws.FnWorths", spec := "fnWorths", unfollowed := true, recurses := true, apart := false }
def FnWorthsSaid : Prop := fnWorthsRow.holds Try.pinned (OpenSpec.ofChange fnWorthsSpec)

/-- ITS FALSE NEIGHBOUR: 'it returns false'. Refute it at one input. -/
def fnWorthsWrong : ChangeSpec := { name := "fnWorths", fn := fun _ => fun
  | [d] => { results := [.lit (.bool false)], args := [d] }
  | _ => none }
def FnWorthsWrongFalsely : Prop := fnWorthsRow.holds Try.pinned (OpenSpec.ofChange fnWorthsWrong)

/-- 'laws.FnExactHeavierIn': WHATEVER THE INPUT: true; the input reads as it did. -/
def fnExactHeavierInSpec : ChangeSpec := { name := "fnExactHeavierIn", fn := fun _ => fun
  | [d1, d2, d3] => { results := [.lit (.bool true)], args := [d1, d2, d3] }
  | _ => none }
def fnExactHeavierInRow : OpenClaim := { program := "ytihaajcmephlmaa", sum := "3d1827b0bd3841d780d79a9c8aeea14c8544c1c944707e6105e6bc1590d62a10", func := "loop.example/g00869/laws.FnExactHeavierIn", spec := "fnExactHeavierIn", apart := false }
def FnExactHeavierInSaid : Prop := fnExactHeavierInRow.holds Try.pinned (OpenSpec.ofChange fnExactHeavierInSpec)

/-- ITS FALSE NEIGHBOUR: 'it returns false'. Refute it at one input. -/
def fnExactHeavierInWrong : ChangeSpec := { name := "fnExactHeavierIn", fn := fun _ => fun
  | [d1, d2, d3] => { results := [.lit (.bool false)], args := [d1, d2, d3] }
  | _ => none }
def FnExactHeavierInWrongFalsely : Prop := fnExactHeavierInRow.holds Try.pinned (OpenSpec.ofChange fnExactHeavierInWrong)

/-- 'laws.FnExactWorthOf': WHATEVER THE INPUT: true; the input reads as it did. -/
def fnExactWorthOfSpec : ChangeSpec := { name := "fnExactWorthOf", fn := fun _ => fun
  | [d1, d2, d3, d4] => { results := [.lit (.bool true)], args := [d1, d2, d3, d4] }
  | _ => none }
def fnExactWorthOfRow : OpenClaim := { program := "ytihaajcmephlmaa", sum := "3d1827b0bd3841d780d79a9c8aeea14c8544c1c944707e6105e6bc1590d62a10", func := "loop.example/g00869/laws.FnExactWorthOf", spec := "fnExactWorthOf", unfollowed := true, recurses := true, apart := false }
def FnExactWorthOfSaid : Prop := fnExactWorthOfRow.holds Try.pinned (OpenSpec.ofChange fnExactWorthOfSpec)

/-- ITS FALSE NEIGHBOUR: 'it returns false'. Refute it at one input. -/
def fnExactWorthOfWrong : ChangeSpec := { name := "fnExactWorthOf", fn := fun _ => fun
  | [d1, d2, d3, d4] => { results := [.lit (.bool false)], args := [d1, d2, d3, d4] }
  | _ => none }
def FnExactWorthOfWrongFalsely : Prop := fnExactWorthOfRow.holds Try.pinned (OpenSpec.ofChange fnExactWorthOfWrong)

/-- 'laws.FnExactWorthOk': WHATEVER THE INPUT: true; the input reads as it did. -/
def fnExactWorthOkSpec : ChangeSpec := { name := "fnExactWorthOk", fn := fun _ => fun
  | [d1, d2] => { results := [.lit (.bool true)], args := [d1, d2] }
  | _ => none }
def fnExactWorthOkRow : OpenClaim := { program := "ytihaajcmephlmaa", sum := "3d1827b0bd3841d780d79a9c8aeea14c8544c1c944707e6105e6bc1590d62a10", func := "loop.example/g00869/laws.FnExactWorthOk", spec := "fnExactWorthOk", unfollowed := true, recurses := true, apart := false }
def FnExactWorthOkSaid : Prop := fnExactWorthOkRow.holds Try.pinned (OpenSpec.ofChange fnExactWorthOkSpec)

/-- ITS FALSE NEIGHBOUR: 'it returns false'. Refute it at one input. -/
def fnExactWorthOkWrong : ChangeSpec := { name := "fnExactWorthOk", fn := fun _ => fun
  | [d1, d2] => { results := [.lit (.bool false)], args := [d1, d2] }
  | _ => none }
def FnExactWorthOkWrongFalsely : Prop := fnExactWorthOkRow.holds Try.pinned (OpenSpec.ofChange fnExactWorthOkWrong)

/-- 'laws.FnExactBetterIn': WHATEVER THE INPUT: true; the input reads as it did. -/
def fnExactBetterInSpec : ChangeSpec := { name := "fnExactBetterIn", fn := fun _ => fun
  | [d1, d2, d3] => { results := [.lit (.bool true)], args := [d1, d2, d3] }
  | _ => none }
def fnExactBetterInRow : OpenClaim := { program := "ytihaajcmephlmaa", sum := "3d1827b0bd3841d780d79a9c8aeea14c8544c1c944707e6105e6bc1590d62a10", func := "loop.example/g00869/laws.FnExactBetterIn", spec := "fnExactBetterIn", unfollowed := true, recurses := true, apart := false }
def FnExactBetterInSaid : Prop := fnExactBetterInRow.holds Try.pinned (OpenSpec.ofChange fnExactBetterInSpec)

/-- ITS FALSE NEIGHBOUR: 'it returns false'. Refute it at one input. -/
def fnExactBetterInWrong : ChangeSpec := { name := "fnExactBetterIn", fn := fun _ => fun
  | [d1, d2, d3] => { results := [.lit (.bool false)], args := [d1, d2, d3] }
  | _ => none }
def FnExactBetterInWrongFalsely : Prop := fnExactBetterInRow.holds Try.pinned (OpenSpec.ofChange fnExactBetterInWrong)

/-- 'laws.FnExactRepliesIn': WHATEVER THE INPUT: true; the input reads as it did. -/
def fnExactRepliesInSpec : ChangeSpec := { name := "fnExactRepliesIn", fn := fun _ => fun
  | [d] => { results := [.lit (.bool true)], args := [d] }
  | _ => none }
def fnExactRepliesInRow : OpenClaim := { program := "ytihaajcmephlmaa", sum := "3d1827b0bd3841d780d79a9c8aeea14c8544c1c944707e6105e6bc1590d62a10", func := "loop.example/g00869/laws.FnExactRepliesIn", spec := "fnExactRepliesIn", apart := false }
def FnExactRepliesInSaid : Prop := fnExactRepliesInRow.holds Try.pinned (OpenSpec.ofChange fnExactRepliesInSpec)

/-- ITS FALSE NEIGHBOUR: 'it returns false'. Refute it at one input. -/
def fnExactRepliesInWrong : ChangeSpec := { name := "fnExactRepliesIn", fn := fun _ => fun
  | [d] => { results := [.lit (.bool false)], args := [d] }
  | _ => none }
def FnExactRepliesInWrongFalsely : Prop := fnExactRepliesInRow.holds Try.pinned (OpenSpec.ofChange fnExactRepliesInWrong)

/- THE SECOND FORM. 'bulk': how many values and letters a reading holds, each counted each time it is reached (what is shared counts as often as it is met; a slice's spare places count too). A statement '..UptoSaid' is the law's where the arguments, and the package variables that the reading takes, are together of bulk at most 1048576: NARROWER than '..Said'. Prove '..Said' where nothing that the law and all that it calls make is longer than what came in: it says more and counts as full. Else prove '..UptoSaid'. A law counts once. -/
mutual
def uptoBulk {H : Type} : DataW H → Nat
  | .lit (.string bytes) => bytes.length + 1
  | .lit _ => 1
  | .nil => 1
  | .ptr d => uptoBulk d + 1
  | .slice elems spare => uptoBulkAll elems + uptoBulkAll spare + 1
  | .agg parts => uptoBulkAll parts + 1
  | .iface _ d => uptoBulk d + 1
  | .map entries => uptoBulkEntries entries + 1
  | .held _ => 1
def uptoBulkAll {H : Type} : List (DataW H) → Nat
  | [] => 0
  | d :: r => uptoBulk d + uptoBulkAll r
def uptoBulkEntries {H : Type} : List (Lit × DataW H) → Nat
  | [] => 0
  | x :: r => uptoBulkEntry x + uptoBulkEntries r
def uptoBulkEntry {H : Type} : Lit × DataW H → Nat
  | (.string bytes, d) => bytes.length + uptoBulk d + 1
  | (_, d) => uptoBulk d + 1
 end
def uptoSmall : (H : Type) → List (DataW H) → Bool := fun _ ds => decide (uptoBulkAll ds ≤ 1048576)
def OpenSpec.upto (s : _root_.Go.ChangeSpec) : _root_.Go.OpenSpec := { _root_.Go.OpenSpec.ofChange s with cond := some uptoSmall }

/-- 'laws.FnWorths', WHERE WHAT IT READS IS OF BULK AT MOST 1048576: true; the input reads as it did. -/
def fnWorthsUptoRow : OpenClaim := { program := "ytihaajcmephlmaa", sum := "3d1827b0bd3841d780d79a9c8aeea14c8544c1c944707e6105e6bc1590d62a10", func := "loop.example/g00869/laws.FnWorths", spec := "fnWorths", unfollowed := true, recurses := true, apart := false, narrowed := true }
def FnWorthsUptoSaid : Prop := fnWorthsUptoRow.holds Try.pinned (OpenSpec.upto fnWorthsSpec)

/-- 'laws.FnExactHeavierIn', WHERE WHAT IT READS IS OF BULK AT MOST 1048576: true; the input reads as it did. -/
def fnExactHeavierInUptoRow : OpenClaim := { program := "ytihaajcmephlmaa", sum := "3d1827b0bd3841d780d79a9c8aeea14c8544c1c944707e6105e6bc1590d62a10", func := "loop.example/g00869/laws.FnExactHeavierIn", spec := "fnExactHeavierIn", apart := false, narrowed := true }
def FnExactHeavierInUptoSaid : Prop := fnExactHeavierInUptoRow.holds Try.pinned (OpenSpec.upto fnExactHeavierInSpec)

/-- 'laws.FnExactWorthOf', WHERE WHAT IT READS IS OF BULK AT MOST 1048576: true; the input reads as it did. -/
def fnExactWorthOfUptoRow : OpenClaim := { program := "ytihaajcmephlmaa", sum := "3d1827b0bd3841d780d79a9c8aeea14c8544c1c944707e6105e6bc1590d62a10", func := "loop.example/g00869/laws.FnExactWorthOf", spec := "fnExactWorthOf", unfollowed := true, recurses := true, apart := false, narrowed := true }
def FnExactWorthOfUptoSaid : Prop := fnExactWorthOfUptoRow.holds Try.pinned (OpenSpec.upto fnExactWorthOfSpec)

/-- 'laws.FnExactWorthOk', WHERE WHAT IT READS IS OF BULK AT MOST 1048576: true; the input reads as it did. -/
def fnExactWorthOkUptoRow : OpenClaim := { program := "ytihaajcmephlmaa", sum := "3d1827b0bd3841d780d79a9c8aeea14c8544c1c944707e6105e6bc1590d62a10", func := "loop.example/g00869/laws.FnExactWorthOk", spec := "fnExactWorthOk", unfollowed := true, recurses := true, apart := false, narrowed := true }
def FnExactWorthOkUptoSaid : Prop := fnExactWorthOkUptoRow.holds Try.pinned (OpenSpec.upto fnExactWorthOkSpec)

/-- 'laws.FnExactBetterIn', WHERE WHAT IT READS IS OF BULK AT MOST 1048576: true; the input reads as it did. -/
def fnExactBetterInUptoRow : OpenClaim := { program := "ytihaajcmephlmaa", sum := "3d1827b0bd3841d780d79a9c8aeea14c8544c1c944707e6105e6bc1590d62a10", func := "loop.example/g00869/laws.FnExactBetterIn", spec := "fnExactBetterIn", unfollowed := true, recurses := true, apart := false, narrowed := true }
def FnExactBetterInUptoSaid : Prop := fnExactBetterInUptoRow.holds Try.pinned (OpenSpec.upto fnExactBetterInSpec)

/-- 'laws.FnExactRepliesIn', WHERE WHAT IT READS IS OF BULK AT MOST 1048576: true; the input reads as it did. -/
def fnExactRepliesInUptoRow : OpenClaim := { program := "ytihaajcmephlmaa", sum := "3d1827b0bd3841d780d79a9c8aeea14c8544c1c944707e6105e6bc1590d62a10", func := "loop.example/g00869/laws.FnExactRepliesIn", spec := "fnExactRepliesIn", apart := false, narrowed := true }
def FnExactRepliesInUptoSaid : Prop := fnExactRepliesInUptoRow.holds Try.pinned (OpenSpec.upto fnExactRepliesInSpec)

end Rows
end Go.Proofs.Ytihaajcmephlmaa
