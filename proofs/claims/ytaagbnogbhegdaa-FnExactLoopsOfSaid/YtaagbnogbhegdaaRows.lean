/-
  No cell of these rows narrows 'for every input' (looked for: loops, veiled, ifaces, maps, wideKeys, modest, calm, conditions, laid).
  DERIVED. THE GIVEN ROWS OF THIS SEAT. 11 by the template 'for every input the law returns true; each argument reads behind the call as it read before'; 0 by the template 'total and deterministic' (their statements: YtaagbnogbhegdaaTotals.lean).
  GIVEN WITH THE SEED: the statements are not yours to turn. If you find one false, say at which input.
  Laid BY PROGRAM, IN A SANDBOX (cutbox-rows.mjs): the forced cells as the released guide's own fill.sh prints them over the translation 80f81b53c7da13ed… (all of the seat's roots in one cut). By AI agents, Wed Nov 11 2026. No macro, syntax, notation, axiom, sorry.
-/
import Derived.Test.YtaagbnogbhegdaaChecked
import GoSem.Claim
import GoSem.ClaimJoined
import GoSem.ClaimMapViews
import Derived.JoinedTies
import Derived.KernelRfl
namespace Go.Proofs.Ytaagbnogbhegdaa
/- THE CELL 'sum', in the pinned program and in every row, IS THE sha256 OF THE DUMP (.gsa) THAT YtaagbnogbhegdaaProg.lean LOADS. Nothing in Lean hashes anything: it is a label: what it is worth is what the hold of that sum in a sandbox is worth. -/
noncomputable def Try.pinned : Pinned := { name := "ytaagbnogbhegdaa", sum := "80f81b53c7da13ed8e4311aa8dca345929e56c0e37812b109c1f309b3f7bc9a8", checked := Try.checked }
namespace Rows
def none {H : Type} : Left H := { results := [], args := [] }

/-- 'laws.FnParts': WHATEVER THE INPUT: true; the input reads as it did. -/
def fnPartsSpec : ChangeSpec := { name := "fnParts", fn := fun _ => fun
  | [d] => { results := [.lit (.bool true)], args := [d] }
  | _ => none }
def fnPartsRow : OpenClaim := { program := "ytaagbnogbhegdaa", sum := "80f81b53c7da13ed8e4311aa8dca345929e56c0e37812b109c1f309b3f7bc9a8", func := "loop.example/g00869/laws.FnParts", spec := "fnParts", unfollowed := true, recurses := true, apart := false }
def FnPartsSaid : Prop := fnPartsRow.holds Try.pinned (OpenSpec.ofChange fnPartsSpec)

/-- ITS FALSE NEIGHBOUR: 'it returns false'. Refute it at one input. -/
def fnPartsWrong : ChangeSpec := { name := "fnParts", fn := fun _ => fun
  | [d] => { results := [.lit (.bool false)], args := [d] }
  | _ => none }
def FnPartsWrongFalsely : Prop := fnPartsRow.holds Try.pinned (OpenSpec.ofChange fnPartsWrong)

/-- 'laws.FnPlays': WHATEVER THE INPUT: true; the input reads as it did. -/
def fnPlaysSpec : ChangeSpec := { name := "fnPlays", fn := fun _ => fun
  | [d] => { results := [.lit (.bool true)], args := [d] }
  | _ => none }
def fnPlaysRow : OpenClaim := { program := "ytaagbnogbhegdaa", sum := "80f81b53c7da13ed8e4311aa8dca345929e56c0e37812b109c1f309b3f7bc9a8", func := "loop.example/g00869/laws.FnPlays", spec := "fnPlays", unfollowed := true, recurses := true, apart := false }
def FnPlaysSaid : Prop := fnPlaysRow.holds Try.pinned (OpenSpec.ofChange fnPlaysSpec)

/-- ITS FALSE NEIGHBOUR: 'it returns false'. Refute it at one input. -/
def fnPlaysWrong : ChangeSpec := { name := "fnPlays", fn := fun _ => fun
  | [d] => { results := [.lit (.bool false)], args := [d] }
  | _ => none }
def FnPlaysWrongFalsely : Prop := fnPlaysRow.holds Try.pinned (OpenSpec.ofChange fnPlaysWrong)

/-- 'laws.FnExactEdgeIn': WHATEVER THE INPUT: true; the input reads as it did. -/
def fnExactEdgeInSpec : ChangeSpec := { name := "fnExactEdgeIn", fn := fun _ => fun
  | [d1, d2, d3] => { results := [.lit (.bool true)], args := [d1, d2, d3] }
  | _ => none }
def fnExactEdgeInRow : OpenClaim := { program := "ytaagbnogbhegdaa", sum := "80f81b53c7da13ed8e4311aa8dca345929e56c0e37812b109c1f309b3f7bc9a8", func := "loop.example/g00869/laws.FnExactEdgeIn", spec := "fnExactEdgeIn", apart := false }
def FnExactEdgeInSaid : Prop := fnExactEdgeInRow.holds Try.pinned (OpenSpec.ofChange fnExactEdgeInSpec)

/-- ITS FALSE NEIGHBOUR: 'it returns false'. Refute it at one input. -/
def fnExactEdgeInWrong : ChangeSpec := { name := "fnExactEdgeIn", fn := fun _ => fun
  | [d1, d2, d3] => { results := [.lit (.bool false)], args := [d1, d2, d3] }
  | _ => none }
def FnExactEdgeInWrongFalsely : Prop := fnExactEdgeInRow.holds Try.pinned (OpenSpec.ofChange fnExactEdgeInWrong)

/-- 'laws.FnExactLoopsOf': WHATEVER THE INPUT: true; the input reads as it did. -/
def fnExactLoopsOfSpec : ChangeSpec := { name := "fnExactLoopsOf", fn := fun _ => fun
  | [d1, d2] => { results := [.lit (.bool true)], args := [d1, d2] }
  | _ => none }
def fnExactLoopsOfRow : OpenClaim := { program := "ytaagbnogbhegdaa", sum := "80f81b53c7da13ed8e4311aa8dca345929e56c0e37812b109c1f309b3f7bc9a8", func := "loop.example/g00869/laws.FnExactLoopsOf", spec := "fnExactLoopsOf", unfollowed := true, recurses := true, apart := false }
def FnExactLoopsOfSaid : Prop := fnExactLoopsOfRow.holds Try.pinned (OpenSpec.ofChange fnExactLoopsOfSpec)

/-- ITS FALSE NEIGHBOUR: 'it returns false'. Refute it at one input. -/
def fnExactLoopsOfWrong : ChangeSpec := { name := "fnExactLoopsOf", fn := fun _ => fun
  | [d1, d2] => { results := [.lit (.bool false)], args := [d1, d2] }
  | _ => none }
def FnExactLoopsOfWrongFalsely : Prop := fnExactLoopsOfRow.holds Try.pinned (OpenSpec.ofChange fnExactLoopsOfWrong)

/-- 'laws.FnExactPlanOk': WHATEVER THE INPUT: true; the input reads as it did. -/
def fnExactPlanOkSpec : ChangeSpec := { name := "fnExactPlanOk", fn := fun _ => fun
  | [d1, d2, d3] => { results := [.lit (.bool true)], args := [d1, d2, d3] }
  | _ => none }
def fnExactPlanOkRow : OpenClaim := { program := "ytaagbnogbhegdaa", sum := "80f81b53c7da13ed8e4311aa8dca345929e56c0e37812b109c1f309b3f7bc9a8", func := "loop.example/g00869/laws.FnExactPlanOk", spec := "fnExactPlanOk", apart := false }
def FnExactPlanOkSaid : Prop := fnExactPlanOkRow.holds Try.pinned (OpenSpec.ofChange fnExactPlanOkSpec)

/-- ITS FALSE NEIGHBOUR: 'it returns false'. Refute it at one input. -/
def fnExactPlanOkWrong : ChangeSpec := { name := "fnExactPlanOk", fn := fun _ => fun
  | [d1, d2, d3] => { results := [.lit (.bool false)], args := [d1, d2, d3] }
  | _ => none }
def FnExactPlanOkWrongFalsely : Prop := fnExactPlanOkRow.holds Try.pinned (OpenSpec.ofChange fnExactPlanOkWrong)

/-- 'laws.FnExactFullIn': WHATEVER THE INPUT: true; the input reads as it did. -/
def fnExactFullInSpec : ChangeSpec := { name := "fnExactFullIn", fn := fun _ => fun
  | [d1, d2, d3] => { results := [.lit (.bool true)], args := [d1, d2, d3] }
  | _ => none }
def fnExactFullInRow : OpenClaim := { program := "ytaagbnogbhegdaa", sum := "80f81b53c7da13ed8e4311aa8dca345929e56c0e37812b109c1f309b3f7bc9a8", func := "loop.example/g00869/laws.FnExactFullIn", spec := "fnExactFullIn", apart := false }
def FnExactFullInSaid : Prop := fnExactFullInRow.holds Try.pinned (OpenSpec.ofChange fnExactFullInSpec)

/-- ITS FALSE NEIGHBOUR: 'it returns false'. Refute it at one input. -/
def fnExactFullInWrong : ChangeSpec := { name := "fnExactFullIn", fn := fun _ => fun
  | [d1, d2, d3] => { results := [.lit (.bool false)], args := [d1, d2, d3] }
  | _ => none }
def FnExactFullInWrongFalsely : Prop := fnExactFullInRow.holds Try.pinned (OpenSpec.ofChange fnExactFullInWrong)

/-- 'laws.FnExactLassoOk': WHATEVER THE INPUT: true; the input reads as it did. -/
def fnExactLassoOkSpec : ChangeSpec := { name := "fnExactLassoOk", fn := fun _ => fun
  | [d1, d2] => { results := [.lit (.bool true)], args := [d1, d2] }
  | _ => none }
def fnExactLassoOkRow : OpenClaim := { program := "ytaagbnogbhegdaa", sum := "80f81b53c7da13ed8e4311aa8dca345929e56c0e37812b109c1f309b3f7bc9a8", func := "loop.example/g00869/laws.FnExactLassoOk", spec := "fnExactLassoOk", apart := false }
def FnExactLassoOkSaid : Prop := fnExactLassoOkRow.holds Try.pinned (OpenSpec.ofChange fnExactLassoOkSpec)

/-- ITS FALSE NEIGHBOUR: 'it returns false'. Refute it at one input. -/
def fnExactLassoOkWrong : ChangeSpec := { name := "fnExactLassoOk", fn := fun _ => fun
  | [d1, d2] => { results := [.lit (.bool false)], args := [d1, d2] }
  | _ => none }
def FnExactLassoOkWrongFalsely : Prop := fnExactLassoOkRow.holds Try.pinned (OpenSpec.ofChange fnExactLassoOkWrong)

/-- 'laws.FnExactPlayOf': WHATEVER THE INPUT: true; the input reads as it did. -/
def fnExactPlayOfSpec : ChangeSpec := { name := "fnExactPlayOf", fn := fun _ => fun
  | [d1, d2, d3, d4] => { results := [.lit (.bool true)], args := [d1, d2, d3, d4] }
  | _ => none }
def fnExactPlayOfRow : OpenClaim := { program := "ytaagbnogbhegdaa", sum := "80f81b53c7da13ed8e4311aa8dca345929e56c0e37812b109c1f309b3f7bc9a8", func := "loop.example/g00869/laws.FnExactPlayOf", spec := "fnExactPlayOf", unfollowed := true, recurses := true, apart := false }
def FnExactPlayOfSaid : Prop := fnExactPlayOfRow.holds Try.pinned (OpenSpec.ofChange fnExactPlayOfSpec)

/-- ITS FALSE NEIGHBOUR: 'it returns false'. Refute it at one input. -/
def fnExactPlayOfWrong : ChangeSpec := { name := "fnExactPlayOf", fn := fun _ => fun
  | [d1, d2, d3, d4] => { results := [.lit (.bool false)], args := [d1, d2, d3, d4] }
  | _ => none }
def FnExactPlayOfWrongFalsely : Prop := fnExactPlayOfRow.holds Try.pinned (OpenSpec.ofChange fnExactPlayOfWrong)

/-- 'laws.FnExactPlayWon': WHATEVER THE INPUT: true; the input reads as it did. -/
def fnExactPlayWonSpec : ChangeSpec := { name := "fnExactPlayWon", fn := fun _ => fun
  | [d1, d2] => { results := [.lit (.bool true)], args := [d1, d2] }
  | _ => none }
def fnExactPlayWonRow : OpenClaim := { program := "ytaagbnogbhegdaa", sum := "80f81b53c7da13ed8e4311aa8dca345929e56c0e37812b109c1f309b3f7bc9a8", func := "loop.example/g00869/laws.FnExactPlayWon", spec := "fnExactPlayWon", apart := false }
def FnExactPlayWonSaid : Prop := fnExactPlayWonRow.holds Try.pinned (OpenSpec.ofChange fnExactPlayWonSpec)

/-- ITS FALSE NEIGHBOUR: 'it returns false'. Refute it at one input. -/
def fnExactPlayWonWrong : ChangeSpec := { name := "fnExactPlayWon", fn := fun _ => fun
  | [d1, d2] => { results := [.lit (.bool false)], args := [d1, d2] }
  | _ => none }
def FnExactPlayWonWrongFalsely : Prop := fnExactPlayWonRow.holds Try.pinned (OpenSpec.ofChange fnExactPlayWonWrong)

/-- 'laws.FnExactFixedBy': WHATEVER THE INPUT: true; the input reads as it did. -/
def fnExactFixedBySpec : ChangeSpec := { name := "fnExactFixedBy", fn := fun _ => fun
  | [d1, d2, d3] => { results := [.lit (.bool true)], args := [d1, d2, d3] }
  | _ => none }
def fnExactFixedByRow : OpenClaim := { program := "ytaagbnogbhegdaa", sum := "80f81b53c7da13ed8e4311aa8dca345929e56c0e37812b109c1f309b3f7bc9a8", func := "loop.example/g00869/laws.FnExactFixedBy", spec := "fnExactFixedBy", apart := false }
def FnExactFixedBySaid : Prop := fnExactFixedByRow.holds Try.pinned (OpenSpec.ofChange fnExactFixedBySpec)

/-- ITS FALSE NEIGHBOUR: 'it returns false'. Refute it at one input. -/
def fnExactFixedByWrong : ChangeSpec := { name := "fnExactFixedBy", fn := fun _ => fun
  | [d1, d2, d3] => { results := [.lit (.bool false)], args := [d1, d2, d3] }
  | _ => none }
def FnExactFixedByWrongFalsely : Prop := fnExactFixedByRow.holds Try.pinned (OpenSpec.ofChange fnExactFixedByWrong)

/-- 'laws.FnExactLeastFull': WHATEVER THE INPUT: true; the input reads as it did. -/
def fnExactLeastFullSpec : ChangeSpec := { name := "fnExactLeastFull", fn := fun _ => fun
  | [d1, d2] => { results := [.lit (.bool true)], args := [d1, d2] }
  | _ => none }
def fnExactLeastFullRow : OpenClaim := { program := "ytaagbnogbhegdaa", sum := "80f81b53c7da13ed8e4311aa8dca345929e56c0e37812b109c1f309b3f7bc9a8", func := "loop.example/g00869/laws.FnExactLeastFull", spec := "fnExactLeastFull", apart := false }
def FnExactLeastFullSaid : Prop := fnExactLeastFullRow.holds Try.pinned (OpenSpec.ofChange fnExactLeastFullSpec)

/-- ITS FALSE NEIGHBOUR: 'it returns false'. Refute it at one input. -/
def fnExactLeastFullWrong : ChangeSpec := { name := "fnExactLeastFull", fn := fun _ => fun
  | [d1, d2] => { results := [.lit (.bool false)], args := [d1, d2] }
  | _ => none }
def FnExactLeastFullWrongFalsely : Prop := fnExactLeastFullRow.holds Try.pinned (OpenSpec.ofChange fnExactLeastFullWrong)

/- THE SECOND FORM. 'bulk': how many values and letters a reading holds, each counted each time it is reached (what is shared counts as often as it is met; a slice's spare places count too). A statement '..UptoSaid' is the law's where the arguments, and the package variables that the reading takes, are together of bulk at most 1048576: NARROWER than '..Said'. Prove '..Said' where nothing that the law and all that it calls make is longer than what came in: it says more and counts as full. Else prove '..UptoSaid'. A law counts once. -/
mutual
def uptoBulk {H : Type} : DataW H → Nat
  | .lit (.string bytes) => bytes.length + 1
  | .lit _ => 1
  | .nil => 1
  | .ptr d => uptoBulk d + 1
  | .slice elems spare => uptoBulkAll elems + uptoBulkAll spare + 1
  | .agg parts => uptoBulkAll parts + 1
  | .iface _ d => uptoBulk d + 1
  | .map entries => uptoBulkEntries entries + 1
  | .held _ => 1
def uptoBulkAll {H : Type} : List (DataW H) → Nat
  | [] => 0
  | d :: r => uptoBulk d + uptoBulkAll r
def uptoBulkEntries {H : Type} : List (Lit × DataW H) → Nat
  | [] => 0
  | x :: r => uptoBulkEntry x + uptoBulkEntries r
def uptoBulkEntry {H : Type} : Lit × DataW H → Nat
  | (.string bytes, d) => bytes.length + uptoBulk d + 1
  | (_, d) => uptoBulk d + 1
 end
def uptoSmall : (H : Type) → List (DataW H) → Bool := fun _ ds => decide (uptoBulkAll ds ≤ 1048576)
def OpenSpec.upto (s : _root_.Go.ChangeSpec) : _root_.Go.OpenSpec := { _root_.Go.OpenSpec.ofChange s with cond := some uptoSmall }

/-- 'laws.FnParts', WHERE WHAT IT READS IS OF BULK AT MOST 1048576: true; the input reads as it did. -/
def fnPartsUptoRow : OpenClaim := { program := "ytaagbnogbhegdaa", sum := "80f81b53c7da13ed8e4311aa8dca345929e56c0e37812b109c1f309b3f7bc9a8", func := "loop.example/g00869/laws.FnParts", spec := "fnParts", unfollowed := true, recurses := true, apart := false, narrowed := true }
def FnPartsUptoSaid : Prop := fnPartsUptoRow.holds Try.pinned (OpenSpec.upto fnPartsSpec)

/-- 'laws.FnPlays', WHERE WHAT IT READS IS OF BULK AT MOST 1048576: true; the input reads as it did. -/
def fnPlaysUptoRow : OpenClaim := { program := "ytaagbnogbhegdaa", sum := "80f81b53c7da13ed8e4311aa8dca345929e56c0e37812b109c1f309b3f7bc9a8", func := "loop.example/g00869/laws.FnPlays", spec := "fnPlays", unfollowed := true, recurses := true, apart := false, narrowed := true }
def FnPlaysUptoSaid : Prop := fnPlaysUptoRow.holds Try.pinned (OpenSpec.upto fnPlaysSpec)

/-- 'laws.FnExactEdgeIn', WHERE WHAT IT READS IS OF BULK AT MOST 1048576: true; the input reads as it did. -/
def fnExactEdgeInUptoRow : OpenClaim := { program := "ytaagbnogbhegdaa", sum := "80f81b53c7da13ed8e4311aa8dca345929e56c0e37812b109c1f309b3f7bc9a8", func := "loop.example/g00869/laws.FnExactEdgeIn", spec := "fnExactEdgeIn", apart := false, narrowed := true }
def FnExactEdgeInUptoSaid : Prop := fnExactEdgeInUptoRow.holds Try.pinned (OpenSpec.upto fnExactEdgeInSpec)

/-- 'laws.FnExactLoopsOf', WHERE WHAT IT READS IS OF BULK AT MOST 1048576: true; the input reads as it did. -/
def fnExactLoopsOfUptoRow : OpenClaim := { program := "ytaagbnogbhegdaa", sum := "80f81b53c7da13ed8e4311aa8dca345929e56c0e37812b109c1f309b3f7bc9a8", func := "loop.example/g00869/laws.FnExactLoopsOf", spec := "fnExactLoopsOf", unfollowed := true, recurses := true, apart := false, narrowed := true }
def FnExactLoopsOfUptoSaid : Prop := fnExactLoopsOfUptoRow.holds Try.pinned (OpenSpec.upto fnExactLoopsOfSpec)

/-- 'laws.FnExactPlanOk', WHERE WHAT IT READS IS OF BULK AT MOST 1048576: true; the input reads as it did. -/
def fnExactPlanOkUptoRow : OpenClaim := { program := "ytaagbnogbhegdaa", sum := "80f81b53c7da13ed8e4311aa8dca345929e56c0e37812b109c1f309b3f7bc9a8", func := "loop.example/g00869/laws.FnExactPlanOk", spec := "fnExactPlanOk", apart := false, narrowed := true }
def FnExactPlanOkUptoSaid : Prop := fnExactPlanOkUptoRow.holds Try.pinned (OpenSpec.upto fnExactPlanOkSpec)

/-- 'laws.FnExactFullIn', WHERE WHAT IT READS IS OF BULK AT MOST 1048576: true; the input reads as it did. -/
def fnExactFullInUptoRow : OpenClaim := { program := "ytaagbnogbhegdaa", sum := "80f81b53c7da13ed8e4311aa8dca345929e56c0e37812b109c1f309b3f7bc9a8", func := "loop.example/g00869/laws.FnExactFullIn", spec := "fnExactFullIn", apart := false, narrowed := true }
def FnExactFullInUptoSaid : Prop := fnExactFullInUptoRow.holds Try.pinned (OpenSpec.upto fnExactFullInSpec)

/-- 'laws.FnExactLassoOk', WHERE WHAT IT READS IS OF BULK AT MOST 1048576: true; the input reads as it did. -/
def fnExactLassoOkUptoRow : OpenClaim := { program := "ytaagbnogbhegdaa", sum := "80f81b53c7da13ed8e4311aa8dca345929e56c0e37812b109c1f309b3f7bc9a8", func := "loop.example/g00869/laws.FnExactLassoOk", spec := "fnExactLassoOk", apart := false, narrowed := true }
def FnExactLassoOkUptoSaid : Prop := fnExactLassoOkUptoRow.holds Try.pinned (OpenSpec.upto fnExactLassoOkSpec)

/-- 'laws.FnExactPlayOf', WHERE WHAT IT READS IS OF BULK AT MOST 1048576: true; the input reads as it did. -/
def fnExactPlayOfUptoRow : OpenClaim := { program := "ytaagbnogbhegdaa", sum := "80f81b53c7da13ed8e4311aa8dca345929e56c0e37812b109c1f309b3f7bc9a8", func := "loop.example/g00869/laws.FnExactPlayOf", spec := "fnExactPlayOf", unfollowed := true, recurses := true, apart := false, narrowed := true }
def FnExactPlayOfUptoSaid : Prop := fnExactPlayOfUptoRow.holds Try.pinned (OpenSpec.upto fnExactPlayOfSpec)

/-- 'laws.FnExactPlayWon', WHERE WHAT IT READS IS OF BULK AT MOST 1048576: true; the input reads as it did. -/
def fnExactPlayWonUptoRow : OpenClaim := { program := "ytaagbnogbhegdaa", sum := "80f81b53c7da13ed8e4311aa8dca345929e56c0e37812b109c1f309b3f7bc9a8", func := "loop.example/g00869/laws.FnExactPlayWon", spec := "fnExactPlayWon", apart := false, narrowed := true }
def FnExactPlayWonUptoSaid : Prop := fnExactPlayWonUptoRow.holds Try.pinned (OpenSpec.upto fnExactPlayWonSpec)

/-- 'laws.FnExactFixedBy', WHERE WHAT IT READS IS OF BULK AT MOST 1048576: true; the input reads as it did. -/
def fnExactFixedByUptoRow : OpenClaim := { program := "ytaagbnogbhegdaa", sum := "80f81b53c7da13ed8e4311aa8dca345929e56c0e37812b109c1f309b3f7bc9a8", func := "loop.example/g00869/laws.FnExactFixedBy", spec := "fnExactFixedBy", apart := false, narrowed := true }
def FnExactFixedByUptoSaid : Prop := fnExactFixedByUptoRow.holds Try.pinned (OpenSpec.upto fnExactFixedBySpec)

/-- 'laws.FnExactLeastFull', WHERE WHAT IT READS IS OF BULK AT MOST 1048576: true; the input reads as it did. -/
def fnExactLeastFullUptoRow : OpenClaim := { program := "ytaagbnogbhegdaa", sum := "80f81b53c7da13ed8e4311aa8dca345929e56c0e37812b109c1f309b3f7bc9a8", func := "loop.example/g00869/laws.FnExactLeastFull", spec := "fnExactLeastFull", apart := false, narrowed := true }
def FnExactLeastFullUptoSaid : Prop := fnExactLeastFullUptoRow.holds Try.pinned (OpenSpec.upto fnExactLeastFullSpec)

end Rows
end Go.Proofs.Ytaagbnogbhegdaa
