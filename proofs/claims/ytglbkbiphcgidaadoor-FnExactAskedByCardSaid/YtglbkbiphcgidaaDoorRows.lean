/-
  NARROWER THAN 'FOR EVERY INPUT', by the rows' own cells (each row's printed sentence says how): FnExactPlanFrom: laid · FnExactSolved: laid · FnExactMeasureOk: laid · FnExactAtLeastIn: laid · FnExactAskedBy: laid · FnExactTableOk: laid · FnExactSteadyIn: laid · FnExactLeastTable: laid · FnExactMeasurePlan: laid · FnExactMeasureWon: laid.
  DERIVED. THE GIVEN ROWS OF THIS SEAT. 10 by the template 'for every input the law returns true; each argument reads behind the call as it read before'; 0 by the template 'total and deterministic' (their statements: YtglbkbiphcgidaaDoorTotals.lean).
  GIVEN WITH THE SEED: the statements are not yours to turn. If you find one false, say at which input.
  Laid BY PROGRAM, IN A SANDBOX (cutbox-rows.mjs): the forced cells as the released guide's own fill.sh prints them over the translation ae747457d81ec060… (all of the seat's roots in one cut). By AI agents, Wed Nov 11 2026. No macro, syntax, notation, axiom, sorry.
-/
import Derived.Test.YtglbkbiphcgidaaDoorChecked
import GoSem.Claim
import GoSem.ClaimJoined
import GoSem.ClaimMapViews
import Derived.JoinedTies
import Derived.KernelRfl
namespace Go.Proofs.YtglbkbiphcgidaaDoor
/- THE CELL 'sum', in the pinned program and in every row, IS THE sha256 OF THE DUMP (.gsa) THAT YtglbkbiphcgidaaDoorProg.lean LOADS. Nothing in Lean hashes anything: it is a label: what it is worth is what the hold of that sum in a sandbox is worth. -/
noncomputable def Tryd.pinned : Pinned := { name := "ytglbkbiphcgidaadoor", sum := "ae747457d81ec0604c7c49f2cb23a663883fb316e2b751e0d0e89eefde4811e3", checked := Tryd.checked }
namespace Rows
def none {H : Type} : Left H := { results := [], args := [] }

/- WHAT THE LISTED PACKAGE-LEVEL VARIABLES READ AS WHEN THE CALL BEGINS. Each datum BY PROGRAM (the guide's laid-datum.mjs) off the statement by which the dump's own 'gosem.cut.vars' lays the variable. In a bare row this is a premise. The card (YtglbkbiphcgidaaDoorCards.lean) ties it to the program's text. -/
def laid_math_bits_deBruijn64tab {H : Type} : DataW H := .agg [.lit (.int .u8 0), .lit (.int .u8 1), .lit (.int .u8 56), .lit (.int .u8 2), .lit (.int .u8 57), .lit (.int .u8 49), .lit (.int .u8 28), .lit (.int .u8 3), .lit (.int .u8 61), .lit (.int .u8 58), .lit (.int .u8 42), .lit (.int .u8 50), .lit (.int .u8 38), .lit (.int .u8 29), .lit (.int .u8 17), .lit (.int .u8 4), .lit (.int .u8 62), .lit (.int .u8 47), .lit (.int .u8 59), .lit (.int .u8 36), .lit (.int .u8 45), .lit (.int .u8 43), .lit (.int .u8 51), .lit (.int .u8 22), .lit (.int .u8 53), .lit (.int .u8 39), .lit (.int .u8 33), .lit (.int .u8 30), .lit (.int .u8 24), .lit (.int .u8 18), .lit (.int .u8 12), .lit (.int .u8 5), .lit (.int .u8 63), .lit (.int .u8 55), .lit (.int .u8 48), .lit (.int .u8 27), .lit (.int .u8 60), .lit (.int .u8 41), .lit (.int .u8 37), .lit (.int .u8 16), .lit (.int .u8 46), .lit (.int .u8 35), .lit (.int .u8 44), .lit (.int .u8 21), .lit (.int .u8 52), .lit (.int .u8 32), .lit (.int .u8 23), .lit (.int .u8 11), .lit (.int .u8 54), .lit (.int .u8 26), .lit (.int .u8 40), .lit (.int .u8 15), .lit (.int .u8 34), .lit (.int .u8 20), .lit (.int .u8 31), .lit (.int .u8 10), .lit (.int .u8 25), .lit (.int .u8 14), .lit (.int .u8 19), .lit (.int .u8 9), .lit (.int .u8 13), .lit (.int .u8 8), .lit (.int .u8 7), .lit (.int .u8 6)]
def laid_loop_example_g00869_impl_lostMeasure {H : Type} : DataW H := .agg [.lit (.int .i64 1), .lit (.int .i64 0), .lit (.int .i64 0), .lit (.int .i64 0), .lit (.int .i64 0), .lit (.int .i64 0), .lit (.int .i64 0), .lit (.int .i64 0), .lit (.int .i64 0), .lit (.int .i64 0), .lit (.int .i64 0), .lit (.int .i64 0), .lit (.int .i64 0)]

/-- 'laws.FnExactPlanFrom': WHATEVER THE INPUT: true; the input reads as it did. -/
def fnExactPlanFromSpec : ChangeSpec := { name := "fnExactPlanFrom", fn := fun _ => fun
  | [d1, d2] => { results := [.lit (.bool true)], args := [d1, d2] }
  | _ => none }
def fnExactPlanFromRow : OpenClaim := { program := "ytglbkbiphcgidaadoor", sum := "ae747457d81ec0604c7c49f2cb23a663883fb316e2b751e0d0e89eefde4811e3", func := "loop.example/g00869/laws.FnExactPlanFrom", spec := "fnExactPlanFrom", unfollowed := true, recurses := true, named := ["math/bits.deBruijn64tab"], plainKeys := false, apart := false, laid := [("math/bits.deBruijn64tab", laid_math_bits_deBruijn64tab)] }
def FnExactPlanFromSaid : Prop := fnExactPlanFromRow.holds Tryd.pinned (OpenSpec.ofChange fnExactPlanFromSpec)

/-- ITS FALSE NEIGHBOUR: 'it returns false'. Refute it at one input. -/
def fnExactPlanFromWrong : ChangeSpec := { name := "fnExactPlanFrom", fn := fun _ => fun
  | [d1, d2] => { results := [.lit (.bool false)], args := [d1, d2] }
  | _ => none }
def FnExactPlanFromWrongFalsely : Prop := fnExactPlanFromRow.holds Tryd.pinned (OpenSpec.ofChange fnExactPlanFromWrong)

/-- 'laws.FnExactSolved': WHATEVER THE INPUT: true; the input reads as it did. -/
def fnExactSolvedSpec : ChangeSpec := { name := "fnExactSolved", fn := fun _ => fun
  | [d] => { results := [.lit (.bool true)], args := [d] }
  | _ => none }
def fnExactSolvedRow : OpenClaim := { program := "ytglbkbiphcgidaadoor", sum := "ae747457d81ec0604c7c49f2cb23a663883fb316e2b751e0d0e89eefde4811e3", func := "loop.example/g00869/laws.FnExactSolved", spec := "fnExactSolved", unfollowed := true, recurses := true, named := ["math/bits.deBruijn64tab"], plainKeys := false, apart := false, laid := [("math/bits.deBruijn64tab", laid_math_bits_deBruijn64tab)] }
def FnExactSolvedSaid : Prop := fnExactSolvedRow.holds Tryd.pinned (OpenSpec.ofChange fnExactSolvedSpec)

/-- ITS FALSE NEIGHBOUR: 'it returns false'. Refute it at one input. -/
def fnExactSolvedWrong : ChangeSpec := { name := "fnExactSolved", fn := fun _ => fun
  | [d] => { results := [.lit (.bool false)], args := [d] }
  | _ => none }
def FnExactSolvedWrongFalsely : Prop := fnExactSolvedRow.holds Tryd.pinned (OpenSpec.ofChange fnExactSolvedWrong)

/-- 'laws.FnExactMeasureOk': WHATEVER THE INPUT: true; the input reads as it did. -/
def fnExactMeasureOkSpec : ChangeSpec := { name := "fnExactMeasureOk", vars := ["loop.example/g00869/impl.lostMeasure"], fn := fun _ => fun
  | [d1, d2, g1] => { results := [.lit (.bool true)], args := [d1, d2], vars := [g1] }
  | _ => none }
def fnExactMeasureOkRow : OpenClaim := { program := "ytglbkbiphcgidaadoor", sum := "ae747457d81ec0604c7c49f2cb23a663883fb316e2b751e0d0e89eefde4811e3", func := "loop.example/g00869/laws.FnExactMeasureOk", spec := "fnExactMeasureOk", unfollowed := true, recurses := true, named := ["loop.example/g00869/impl.lostMeasure"], plainKeys := false, apart := false, laid := [("loop.example/g00869/impl.lostMeasure", laid_loop_example_g00869_impl_lostMeasure)] }
def FnExactMeasureOkSaid : Prop := fnExactMeasureOkRow.holds Tryd.pinned (OpenSpec.ofChange fnExactMeasureOkSpec)

/-- ITS FALSE NEIGHBOUR: 'it returns false'. Refute it at one input. -/
def fnExactMeasureOkWrong : ChangeSpec := { name := "fnExactMeasureOk", vars := ["loop.example/g00869/impl.lostMeasure"], fn := fun _ => fun
  | [d1, d2, g1] => { results := [.lit (.bool false)], args := [d1, d2], vars := [g1] }
  | _ => none }
def FnExactMeasureOkWrongFalsely : Prop := fnExactMeasureOkRow.holds Tryd.pinned (OpenSpec.ofChange fnExactMeasureOkWrong)

/-- 'laws.FnExactAtLeastIn': WHATEVER THE INPUT: true; the input reads as it did. -/
def fnExactAtLeastInSpec : ChangeSpec := { name := "fnExactAtLeastIn", vars := ["loop.example/g00869/impl.lostMeasure"], fn := fun _ => fun
  | [d1, d2, d3, d4, g1] => { results := [.lit (.bool true)], args := [d1, d2, d3, d4], vars := [g1] }
  | _ => none }
def fnExactAtLeastInRow : OpenClaim := { program := "ytglbkbiphcgidaadoor", sum := "ae747457d81ec0604c7c49f2cb23a663883fb316e2b751e0d0e89eefde4811e3", func := "loop.example/g00869/laws.FnExactAtLeastIn", spec := "fnExactAtLeastIn", unfollowed := true, recurses := true, named := ["loop.example/g00869/impl.lostMeasure"], plainKeys := false, apart := false, laid := [("loop.example/g00869/impl.lostMeasure", laid_loop_example_g00869_impl_lostMeasure)] }
def FnExactAtLeastInSaid : Prop := fnExactAtLeastInRow.holds Tryd.pinned (OpenSpec.ofChange fnExactAtLeastInSpec)

/-- ITS FALSE NEIGHBOUR: 'it returns false'. Refute it at one input. -/
def fnExactAtLeastInWrong : ChangeSpec := { name := "fnExactAtLeastIn", vars := ["loop.example/g00869/impl.lostMeasure"], fn := fun _ => fun
  | [d1, d2, d3, d4, g1] => { results := [.lit (.bool false)], args := [d1, d2, d3, d4], vars := [g1] }
  | _ => none }
def FnExactAtLeastInWrongFalsely : Prop := fnExactAtLeastInRow.holds Tryd.pinned (OpenSpec.ofChange fnExactAtLeastInWrong)

/-- 'laws.FnExactAskedBy': WHATEVER THE INPUT: true; the input reads as it did. -/
def fnExactAskedBySpec : ChangeSpec := { name := "fnExactAskedBy", vars := ["loop.example/g00869/impl.lostMeasure"], fn := fun _ => fun
  | [d1, d2, d3, g1] => { results := [.lit (.bool true)], args := [d1, d2, d3], vars := [g1] }
  | _ => none }
def fnExactAskedByRow : OpenClaim := { program := "ytglbkbiphcgidaadoor", sum := "ae747457d81ec0604c7c49f2cb23a663883fb316e2b751e0d0e89eefde4811e3", func := "loop.example/g00869/laws.FnExactAskedBy", spec := "fnExactAskedBy", unfollowed := true, recurses := true, named := ["loop.example/g00869/impl.lostMeasure"], plainKeys := false, apart := false, laid := [("loop.example/g00869/impl.lostMeasure", laid_loop_example_g00869_impl_lostMeasure)] }
def FnExactAskedBySaid : Prop := fnExactAskedByRow.holds Tryd.pinned (OpenSpec.ofChange fnExactAskedBySpec)

/-- ITS FALSE NEIGHBOUR: 'it returns false'. Refute it at one input. -/
def fnExactAskedByWrong : ChangeSpec := { name := "fnExactAskedBy", vars := ["loop.example/g00869/impl.lostMeasure"], fn := fun _ => fun
  | [d1, d2, d3, g1] => { results := [.lit (.bool false)], args := [d1, d2, d3], vars := [g1] }
  | _ => none }
def FnExactAskedByWrongFalsely : Prop := fnExactAskedByRow.holds Tryd.pinned (OpenSpec.ofChange fnExactAskedByWrong)

/-- 'laws.FnExactTableOk': WHATEVER THE INPUT: true; the input reads as it did. -/
def fnExactTableOkSpec : ChangeSpec := { name := "fnExactTableOk", vars := ["loop.example/g00869/impl.lostMeasure"], fn := fun _ => fun
  | [d1, d2, g1] => { results := [.lit (.bool true)], args := [d1, d2], vars := [g1] }
  | _ => none }
def fnExactTableOkRow : OpenClaim := { program := "ytglbkbiphcgidaadoor", sum := "ae747457d81ec0604c7c49f2cb23a663883fb316e2b751e0d0e89eefde4811e3", func := "loop.example/g00869/laws.FnExactTableOk", spec := "fnExactTableOk", unfollowed := true, recurses := true, named := ["loop.example/g00869/impl.lostMeasure"], plainKeys := false, apart := false, laid := [("loop.example/g00869/impl.lostMeasure", laid_loop_example_g00869_impl_lostMeasure)] }
def FnExactTableOkSaid : Prop := fnExactTableOkRow.holds Tryd.pinned (OpenSpec.ofChange fnExactTableOkSpec)

/-- ITS FALSE NEIGHBOUR: 'it returns false'. Refute it at one input. -/
def fnExactTableOkWrong : ChangeSpec := { name := "fnExactTableOk", vars := ["loop.example/g00869/impl.lostMeasure"], fn := fun _ => fun
  | [d1, d2, g1] => { results := [.lit (.bool false)], args := [d1, d2], vars := [g1] }
  | _ => none }
def FnExactTableOkWrongFalsely : Prop := fnExactTableOkRow.holds Tryd.pinned (OpenSpec.ofChange fnExactTableOkWrong)

/-- 'laws.FnExactSteadyIn': WHATEVER THE INPUT: true; the input reads as it did. -/
def fnExactSteadyInSpec : ChangeSpec := { name := "fnExactSteadyIn", vars := ["loop.example/g00869/impl.lostMeasure"], fn := fun _ => fun
  | [d1, d2, g1] => { results := [.lit (.bool true)], args := [d1, d2], vars := [g1] }
  | _ => none }
def fnExactSteadyInRow : OpenClaim := { program := "ytglbkbiphcgidaadoor", sum := "ae747457d81ec0604c7c49f2cb23a663883fb316e2b751e0d0e89eefde4811e3", func := "loop.example/g00869/laws.FnExactSteadyIn", spec := "fnExactSteadyIn", unfollowed := true, recurses := true, named := ["loop.example/g00869/impl.lostMeasure"], plainKeys := false, apart := false, laid := [("loop.example/g00869/impl.lostMeasure", laid_loop_example_g00869_impl_lostMeasure)] }
def FnExactSteadyInSaid : Prop := fnExactSteadyInRow.holds Tryd.pinned (OpenSpec.ofChange fnExactSteadyInSpec)

/-- ITS FALSE NEIGHBOUR: 'it returns false'. Refute it at one input. -/
def fnExactSteadyInWrong : ChangeSpec := { name := "fnExactSteadyIn", vars := ["loop.example/g00869/impl.lostMeasure"], fn := fun _ => fun
  | [d1, d2, g1] => { results := [.lit (.bool false)], args := [d1, d2], vars := [g1] }
  | _ => none }
def FnExactSteadyInWrongFalsely : Prop := fnExactSteadyInRow.holds Tryd.pinned (OpenSpec.ofChange fnExactSteadyInWrong)

/-- 'laws.FnExactLeastTable': WHATEVER THE INPUT: true; the input reads as it did. -/
def fnExactLeastTableSpec : ChangeSpec := { name := "fnExactLeastTable", vars := ["loop.example/g00869/impl.lostMeasure"], fn := fun _ => fun
  | [d, g1] => { results := [.lit (.bool true)], args := [d], vars := [g1] }
  | _ => none }
def fnExactLeastTableRow : OpenClaim := { program := "ytglbkbiphcgidaadoor", sum := "ae747457d81ec0604c7c49f2cb23a663883fb316e2b751e0d0e89eefde4811e3", func := "loop.example/g00869/laws.FnExactLeastTable", spec := "fnExactLeastTable", unfollowed := true, recurses := true, named := ["loop.example/g00869/impl.lostMeasure"], plainKeys := false, apart := false, laid := [("loop.example/g00869/impl.lostMeasure", laid_loop_example_g00869_impl_lostMeasure)] }
def FnExactLeastTableSaid : Prop := fnExactLeastTableRow.holds Tryd.pinned (OpenSpec.ofChange fnExactLeastTableSpec)

/-- ITS FALSE NEIGHBOUR: 'it returns false'. Refute it at one input. -/
def fnExactLeastTableWrong : ChangeSpec := { name := "fnExactLeastTable", vars := ["loop.example/g00869/impl.lostMeasure"], fn := fun _ => fun
  | [d, g1] => { results := [.lit (.bool false)], args := [d], vars := [g1] }
  | _ => none }
def FnExactLeastTableWrongFalsely : Prop := fnExactLeastTableRow.holds Tryd.pinned (OpenSpec.ofChange fnExactLeastTableWrong)

/-- 'laws.FnExactMeasurePlan': WHATEVER THE INPUT: true; the input reads as it did. -/
def fnExactMeasurePlanSpec : ChangeSpec := { name := "fnExactMeasurePlan", vars := ["loop.example/g00869/impl.lostMeasure"], fn := fun _ => fun
  | [d, g1] => { results := [.lit (.bool true)], args := [d], vars := [g1] }
  | _ => none }
def fnExactMeasurePlanRow : OpenClaim := { program := "ytglbkbiphcgidaadoor", sum := "ae747457d81ec0604c7c49f2cb23a663883fb316e2b751e0d0e89eefde4811e3", func := "loop.example/g00869/laws.FnExactMeasurePlan", spec := "fnExactMeasurePlan", unfollowed := true, recurses := true, named := ["loop.example/g00869/impl.lostMeasure"], plainKeys := false, apart := false, laid := [("loop.example/g00869/impl.lostMeasure", laid_loop_example_g00869_impl_lostMeasure)] }
def FnExactMeasurePlanSaid : Prop := fnExactMeasurePlanRow.holds Tryd.pinned (OpenSpec.ofChange fnExactMeasurePlanSpec)

/-- ITS FALSE NEIGHBOUR: 'it returns false'. Refute it at one input. -/
def fnExactMeasurePlanWrong : ChangeSpec := { name := "fnExactMeasurePlan", vars := ["loop.example/g00869/impl.lostMeasure"], fn := fun _ => fun
  | [d, g1] => { results := [.lit (.bool false)], args := [d], vars := [g1] }
  | _ => none }
def FnExactMeasurePlanWrongFalsely : Prop := fnExactMeasurePlanRow.holds Tryd.pinned (OpenSpec.ofChange fnExactMeasurePlanWrong)

/-- 'laws.FnExactMeasureWon': WHATEVER THE INPUT: true; the input reads as it did. -/
def fnExactMeasureWonSpec : ChangeSpec := { name := "fnExactMeasureWon", vars := ["loop.example/g00869/impl.lostMeasure"], fn := fun _ => fun
  | [d, g1] => { results := [.lit (.bool true)], args := [d], vars := [g1] }
  | _ => none }
def fnExactMeasureWonRow : OpenClaim := { program := "ytglbkbiphcgidaadoor", sum := "ae747457d81ec0604c7c49f2cb23a663883fb316e2b751e0d0e89eefde4811e3", func := "loop.example/g00869/laws.FnExactMeasureWon", spec := "fnExactMeasureWon", unfollowed := true, recurses := true, named := ["loop.example/g00869/impl.lostMeasure"], plainKeys := false, apart := false, laid := [("loop.example/g00869/impl.lostMeasure", laid_loop_example_g00869_impl_lostMeasure)] }
def FnExactMeasureWonSaid : Prop := fnExactMeasureWonRow.holds Tryd.pinned (OpenSpec.ofChange fnExactMeasureWonSpec)

/-- ITS FALSE NEIGHBOUR: 'it returns false'. Refute it at one input. -/
def fnExactMeasureWonWrong : ChangeSpec := { name := "fnExactMeasureWon", vars := ["loop.example/g00869/impl.lostMeasure"], fn := fun _ => fun
  | [d, g1] => { results := [.lit (.bool false)], args := [d], vars := [g1] }
  | _ => none }
def FnExactMeasureWonWrongFalsely : Prop := fnExactMeasureWonRow.holds Tryd.pinned (OpenSpec.ofChange fnExactMeasureWonWrong)

/- THE SECOND FORM. 'bulk': how many values and letters a reading holds, each counted each time it is reached (what is shared counts as often as it is met; a slice's spare places count too). A statement '..UptoSaid' is the law's where the arguments, and the package variables that the reading takes, are together of bulk at most 1048576: NARROWER than '..Said'. Prove '..Said' where nothing that the law and all that it calls make is longer than what came in: it says more and counts as full. Else prove '..UptoSaid'. A law counts once. -/
mutual
def uptoBulk {H : Type} : DataW H → Nat
  | .lit (.string bytes) => bytes.length + 1
  | .lit _ => 1
  | .nil => 1
  | .ptr d => uptoBulk d + 1
  | .slice elems spare => uptoBulkAll elems + uptoBulkAll spare + 1
  | .agg parts => uptoBulkAll parts + 1
  | .iface _ d => uptoBulk d + 1
  | .map entries => uptoBulkEntries entries + 1
  | .held _ => 1
def uptoBulkAll {H : Type} : List (DataW H) → Nat
  | [] => 0
  | d :: r => uptoBulk d + uptoBulkAll r
def uptoBulkEntries {H : Type} : List (Lit × DataW H) → Nat
  | [] => 0
  | x :: r => uptoBulkEntry x + uptoBulkEntries r
def uptoBulkEntry {H : Type} : Lit × DataW H → Nat
  | (.string bytes, d) => bytes.length + uptoBulk d + 1
  | (_, d) => uptoBulk d + 1
 end
def uptoSmall : (H : Type) → List (DataW H) → Bool := fun _ ds => decide (uptoBulkAll ds ≤ 1048576)
def OpenSpec.upto (s : _root_.Go.ChangeSpec) : _root_.Go.OpenSpec := { _root_.Go.OpenSpec.ofChange s with cond := some uptoSmall }

/-- 'laws.FnExactPlanFrom', WHERE WHAT IT READS IS OF BULK AT MOST 1048576: true; the input reads as it did. -/
def fnExactPlanFromUptoRow : OpenClaim := { program := "ytglbkbiphcgidaadoor", sum := "ae747457d81ec0604c7c49f2cb23a663883fb316e2b751e0d0e89eefde4811e3", func := "loop.example/g00869/laws.FnExactPlanFrom", spec := "fnExactPlanFrom", unfollowed := true, recurses := true, named := ["math/bits.deBruijn64tab"], plainKeys := false, apart := false, laid := [("math/bits.deBruijn64tab", laid_math_bits_deBruijn64tab)], narrowed := true }
def FnExactPlanFromUptoSaid : Prop := fnExactPlanFromUptoRow.holds Tryd.pinned (OpenSpec.upto fnExactPlanFromSpec)

/-- 'laws.FnExactSolved', WHERE WHAT IT READS IS OF BULK AT MOST 1048576: true; the input reads as it did. -/
def fnExactSolvedUptoRow : OpenClaim := { program := "ytglbkbiphcgidaadoor", sum := "ae747457d81ec0604c7c49f2cb23a663883fb316e2b751e0d0e89eefde4811e3", func := "loop.example/g00869/laws.FnExactSolved", spec := "fnExactSolved", unfollowed := true, recurses := true, named := ["math/bits.deBruijn64tab"], plainKeys := false, apart := false, laid := [("math/bits.deBruijn64tab", laid_math_bits_deBruijn64tab)], narrowed := true }
def FnExactSolvedUptoSaid : Prop := fnExactSolvedUptoRow.holds Tryd.pinned (OpenSpec.upto fnExactSolvedSpec)

/-- 'laws.FnExactMeasureOk', WHERE WHAT IT READS IS OF BULK AT MOST 1048576: true; the input reads as it did. -/
def fnExactMeasureOkUptoRow : OpenClaim := { program := "ytglbkbiphcgidaadoor", sum := "ae747457d81ec0604c7c49f2cb23a663883fb316e2b751e0d0e89eefde4811e3", func := "loop.example/g00869/laws.FnExactMeasureOk", spec := "fnExactMeasureOk", unfollowed := true, recurses := true, named := ["loop.example/g00869/impl.lostMeasure"], plainKeys := false, apart := false, laid := [("loop.example/g00869/impl.lostMeasure", laid_loop_example_g00869_impl_lostMeasure)], narrowed := true }
def FnExactMeasureOkUptoSaid : Prop := fnExactMeasureOkUptoRow.holds Tryd.pinned (OpenSpec.upto fnExactMeasureOkSpec)

/-- 'laws.FnExactAtLeastIn', WHERE WHAT IT READS IS OF BULK AT MOST 1048576: true; the input reads as it did. -/
def fnExactAtLeastInUptoRow : OpenClaim := { program := "ytglbkbiphcgidaadoor", sum := "ae747457d81ec0604c7c49f2cb23a663883fb316e2b751e0d0e89eefde4811e3", func := "loop.example/g00869/laws.FnExactAtLeastIn", spec := "fnExactAtLeastIn", unfollowed := true, recurses := true, named := ["loop.example/g00869/impl.lostMeasure"], plainKeys := false, apart := false, laid := [("loop.example/g00869/impl.lostMeasure", laid_loop_example_g00869_impl_lostMeasure)], narrowed := true }
def FnExactAtLeastInUptoSaid : Prop := fnExactAtLeastInUptoRow.holds Tryd.pinned (OpenSpec.upto fnExactAtLeastInSpec)

/-- 'laws.FnExactAskedBy', WHERE WHAT IT READS IS OF BULK AT MOST 1048576: true; the input reads as it did. -/
def fnExactAskedByUptoRow : OpenClaim := { program := "ytglbkbiphcgidaadoor", sum := "ae747457d81ec0604c7c49f2cb23a663883fb316e2b751e0d0e89eefde4811e3", func := "loop.example/g00869/laws.FnExactAskedBy", spec := "fnExactAskedBy", unfollowed := true, recurses := true, named := ["loop.example/g00869/impl.lostMeasure"], plainKeys := false, apart := false, laid := [("loop.example/g00869/impl.lostMeasure", laid_loop_example_g00869_impl_lostMeasure)], narrowed := true }
def FnExactAskedByUptoSaid : Prop := fnExactAskedByUptoRow.holds Tryd.pinned (OpenSpec.upto fnExactAskedBySpec)

/-- 'laws.FnExactTableOk', WHERE WHAT IT READS IS OF BULK AT MOST 1048576: true; the input reads as it did. -/
def fnExactTableOkUptoRow : OpenClaim := { program := "ytglbkbiphcgidaadoor", sum := "ae747457d81ec0604c7c49f2cb23a663883fb316e2b751e0d0e89eefde4811e3", func := "loop.example/g00869/laws.FnExactTableOk", spec := "fnExactTableOk", unfollowed := true, recurses := true, named := ["loop.example/g00869/impl.lostMeasure"], plainKeys := false, apart := false, laid := [("loop.example/g00869/impl.lostMeasure", laid_loop_example_g00869_impl_lostMeasure)], narrowed := true }
def FnExactTableOkUptoSaid : Prop := fnExactTableOkUptoRow.holds Tryd.pinned (OpenSpec.upto fnExactTableOkSpec)

/-- 'laws.FnExactSteadyIn', WHERE WHAT IT READS IS OF BULK AT MOST 1048576: true; the input reads as it did. -/
def fnExactSteadyInUptoRow : OpenClaim := { program := "ytglbkbiphcgidaadoor", sum := "ae747457d81ec0604c7c49f2cb23a663883fb316e2b751e0d0e89eefde4811e3", func := "loop.example/g00869/laws.FnExactSteadyIn", spec := "fnExactSteadyIn", unfollowed := true, recurses := true, named := ["loop.example/g00869/impl.lostMeasure"], plainKeys := false, apart := false, laid := [("loop.example/g00869/impl.lostMeasure", laid_loop_example_g00869_impl_lostMeasure)], narrowed := true }
def FnExactSteadyInUptoSaid : Prop := fnExactSteadyInUptoRow.holds Tryd.pinned (OpenSpec.upto fnExactSteadyInSpec)

/-- 'laws.FnExactLeastTable', WHERE WHAT IT READS IS OF BULK AT MOST 1048576: true; the input reads as it did. -/
def fnExactLeastTableUptoRow : OpenClaim := { program := "ytglbkbiphcgidaadoor", sum := "ae747457d81ec0604c7c49f2cb23a663883fb316e2b751e0d0e89eefde4811e3", func := "loop.example/g00869/laws.FnExactLeastTable", spec := "fnExactLeastTable", unfollowed := true, recurses := true, named := ["loop.example/g00869/impl.lostMeasure"], plainKeys := false, apart := false, laid := [("loop.example/g00869/impl.lostMeasure", laid_loop_example_g00869_impl_lostMeasure)], narrowed := true }
def FnExactLeastTableUptoSaid : Prop := fnExactLeastTableUptoRow.holds Tryd.pinned (OpenSpec.upto fnExactLeastTableSpec)

/-- 'laws.FnExactMeasurePlan', WHERE WHAT IT READS IS OF BULK AT MOST 1048576: true; the input reads as it did. -/
def fnExactMeasurePlanUptoRow : OpenClaim := { program := "ytglbkbiphcgidaadoor", sum := "ae747457d81ec0604c7c49f2cb23a663883fb316e2b751e0d0e89eefde4811e3", func := "loop.example/g00869/laws.FnExactMeasurePlan", spec := "fnExactMeasurePlan", unfollowed := true, recurses := true, named := ["loop.example/g00869/impl.lostMeasure"], plainKeys := false, apart := false, laid := [("loop.example/g00869/impl.lostMeasure", laid_loop_example_g00869_impl_lostMeasure)], narrowed := true }
def FnExactMeasurePlanUptoSaid : Prop := fnExactMeasurePlanUptoRow.holds Tryd.pinned (OpenSpec.upto fnExactMeasurePlanSpec)

/-- 'laws.FnExactMeasureWon', WHERE WHAT IT READS IS OF BULK AT MOST 1048576: true; the input reads as it did. -/
def fnExactMeasureWonUptoRow : OpenClaim := { program := "ytglbkbiphcgidaadoor", sum := "ae747457d81ec0604c7c49f2cb23a663883fb316e2b751e0d0e89eefde4811e3", func := "loop.example/g00869/laws.FnExactMeasureWon", spec := "fnExactMeasureWon", unfollowed := true, recurses := true, named := ["loop.example/g00869/impl.lostMeasure"], plainKeys := false, apart := false, laid := [("loop.example/g00869/impl.lostMeasure", laid_loop_example_g00869_impl_lostMeasure)], narrowed := true }
def FnExactMeasureWonUptoSaid : Prop := fnExactMeasureWonUptoRow.holds Tryd.pinned (OpenSpec.upto fnExactMeasureWonSpec)

end Rows
end Go.Proofs.YtglbkbiphcgidaaDoor
