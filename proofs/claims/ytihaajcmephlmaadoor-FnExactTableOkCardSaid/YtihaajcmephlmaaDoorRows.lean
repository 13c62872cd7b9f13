/-
  NARROWER THAN 'FOR EVERY INPUT', by the rows' own cells (each row's printed sentence says how): FnExactTableOk: laid · FnExactSteadyIn: laid · FnExactLeastTable: laid · FnExactMeasurePlan: laid · FnExactMeasureWon: laid.
  DERIVED. THE GIVEN ROWS OF THIS SEAT. 5 by the template 'for every input the law returns true; each argument reads behind the call as it read before'; 0 by the template 'total and deterministic' (their statements: YtihaajcmephlmaaDoorTotals.lean).
  GIVEN WITH THE SEED: the statements are not yours to turn. If you find one false, say at which input.
  Laid BY PROGRAM, IN A SANDBOX (cutbox-rows.mjs): the forced cells as the released guide's own fill.sh prints them over the translation d18a08c0446403c9… (all of the seat's roots in one cut). By AI agents, Wed Nov 11 2026. No macro, syntax, notation, axiom, sorry.
-/
import Derived.Test.YtihaajcmephlmaaDoorChecked
import GoSem.Claim
import GoSem.ClaimJoined
import GoSem.ClaimMapViews
import Derived.JoinedTies
import Derived.KernelRfl
namespace Go.Proofs.YtihaajcmephlmaaDoor
/- THE CELL 'sum', in the pinned program and in every row, IS THE sha256 OF THE DUMP (.gsa) THAT YtihaajcmephlmaaDoorProg.lean LOADS. Nothing in Lean hashes anything: it is a label: what it is worth is what the hold of that sum in a sandbox is worth. -/
noncomputable def Tryd.pinned : Pinned := { name := "ytihaajcmephlmaadoor", sum := "d18a08c0446403c9a9561d9e19365210fec1bdabcd8ba1eaa02b386d4ac43767", checked := Tryd.checked }
namespace Rows
def none {H : Type} : Left H := { results := [], args := [] }

/- WHAT THE LISTED PACKAGE-LEVEL VARIABLES READ AS WHEN THE CALL BEGINS. Each datum BY PROGRAM (the guide's laid-datum.mjs) off the statement by which the dump's own 'gosem.cut.vars' lays the variable. In a bare row this is a premise. The card (YtihaajcmephlmaaDoorCards.lean) ties it to the program's text. -/
def laid_loop_example_g00869_impl_lostMeasure {H : Type} : DataW H := .agg [.lit (.int .i64 1), .lit (.int .i64 0), .lit (.int .i64 0), .lit (.int .i64 0), .lit (.int .i64 0), .lit (.int .i64 0), .lit (.int .i64 0), .lit (.int .i64 0), .lit (.int .i64 0), .lit (.int .i64 0), .lit (.int .i64 0), .lit (.int .i64 0), .lit (.int .i64 0)]

/-- 'laws.FnExactTableOk': WHATEVER THE INPUT: true; the input reads as it did. -/
def fnExactTableOkSpec : ChangeSpec := { name := "fnExactTableOk", vars := ["loop.example/g00869/impl.lostMeasure"], fn := fun _ => fun
  | [d1, d2, g1] => { results := [.lit (.bool true)], args := [d1, d2], vars := [g1] }
  | _ => none }
def fnExactTableOkRow : OpenClaim := { program := "ytihaajcmephlmaadoor", sum := "d18a08c0446403c9a9561d9e19365210fec1bdabcd8ba1eaa02b386d4ac43767", func := "loop.example/g00869/laws.FnExactTableOk", spec := "fnExactTableOk", unfollowed := true, recurses := true, named := ["loop.example/g00869/impl.lostMeasure"], apart := false, laid := [("loop.example/g00869/impl.lostMeasure", laid_loop_example_g00869_impl_lostMeasure)] }
def FnExactTableOkSaid : Prop := fnExactTableOkRow.holds Tryd.pinned (OpenSpec.ofChange fnExactTableOkSpec)

/-- ITS FALSE NEIGHBOUR: 'it returns false'. Refute it at one input. -/
def fnExactTableOkWrong : ChangeSpec := { name := "fnExactTableOk", vars := ["loop.example/g00869/impl.lostMeasure"], fn := fun _ => fun
  | [d1, d2, g1] => { results := [.lit (.bool false)], args := [d1, d2], vars := [g1] }
  | _ => none }
def FnExactTableOkWrongFalsely : Prop := fnExactTableOkRow.holds Tryd.pinned (OpenSpec.ofChange fnExactTableOkWrong)

/-- 'laws.FnExactSteadyIn': WHATEVER THE INPUT: true; the input reads as it did. -/
def fnExactSteadyInSpec : ChangeSpec := { name := "fnExactSteadyIn", vars := ["loop.example/g00869/impl.lostMeasure"], fn := fun _ => fun
  | [d1, d2, g1] => { results := [.lit (.bool true)], args := [d1, d2], vars := [g1] }
  | _ => none }
def fnExactSteadyInRow : OpenClaim := { program := "ytihaajcmephlmaadoor", sum := "d18a08c0446403c9a9561d9e19365210fec1bdabcd8ba1eaa02b386d4ac43767", func := "loop.example/g00869/laws.FnExactSteadyIn", spec := "fnExactSteadyIn", unfollowed := true, recurses := true, named := ["loop.example/g00869/impl.lostMeasure"], apart := false, laid := [("loop.example/g00869/impl.lostMeasure", laid_loop_example_g00869_impl_lostMeasure)] }
def FnExactSteadyInSaid : Prop := fnExactSteadyInRow.holds Tryd.pinned (OpenSpec.ofChange fnExactSteadyInSpec)

/-- ITS FALSE NEIGHBOUR: 'it returns false'. Refute it at one input. -/
def fnExactSteadyInWrong : ChangeSpec := { name := "fnExactSteadyIn", vars := ["loop.example/g00869/impl.lostMeasure"], fn := fun _ => fun
  | [d1, d2, g1] => { results := [.lit (.bool false)], args := [d1, d2], vars := [g1] }
  | _ => none }
def FnExactSteadyInWrongFalsely : Prop := fnExactSteadyInRow.holds Tryd.pinned (OpenSpec.ofChange fnExactSteadyInWrong)

/-- 'laws.FnExactLeastTable': WHATEVER THE INPUT: true; the input reads as it did. -/
def fnExactLeastTableSpec : ChangeSpec := { name := "fnExactLeastTable", vars := ["loop.example/g00869/impl.lostMeasure"], fn := fun _ => fun
  | [d, g1] => { results := [.lit (.bool true)], args := [d], vars := [g1] }
  | _ => none }
def fnExactLeastTableRow : OpenClaim := { program := "ytihaajcmephlmaadoor", sum := "d18a08c0446403c9a9561d9e19365210fec1bdabcd8ba1eaa02b386d4ac43767", func := "loop.example/g00869/laws.FnExactLeastTable", spec := "fnExactLeastTable", unfollowed := true, recurses := true, named := ["loop.example/g00869/impl.lostMeasure"], apart := false, laid := [("loop.example/g00869/impl.lostMeasure", laid_loop_example_g00869_impl_lostMeasure)] }
def FnExactLeastTableSaid : Prop := fnExactLeastTableRow.holds Tryd.pinned (OpenSpec.ofChange fnExactLeastTableSpec)

/-- ITS FALSE NEIGHBOUR: 'it returns false'. Refute it at one input. -/
def fnExactLeastTableWrong : ChangeSpec := { name := "fnExactLeastTable", vars := ["loop.example/g00869/impl.lostMeasure"], fn := fun _ => fun
  | [d, g1] => { results := [.lit (.bool false)], args := [d], vars := [g1] }
  | _ => none }
def FnExactLeastTableWrongFalsely : Prop := fnExactLeastTableRow.holds Tryd.pinned (OpenSpec.ofChange fnExactLeastTableWrong)

/-- 'laws.FnExactMeasurePlan': WHATEVER THE INPUT: true; the input reads as it did. -/
def fnExactMeasurePlanSpec : ChangeSpec := { name := "fnExactMeasurePlan", vars := ["loop.example/g00869/impl.lostMeasure"], fn := fun _ => fun
  | [d, g1] => { results := [.lit (.bool true)], args := [d], vars := [g1] }
  | _ => none }
def fnExactMeasurePlanRow : OpenClaim := { program := "ytihaajcmephlmaadoor", sum := "d18a08c0446403c9a9561d9e19365210fec1bdabcd8ba1eaa02b386d4ac43767", func := "loop.example/g00869/laws.FnExactMeasurePlan", spec := "fnExactMeasurePlan", unfollowed := true, recurses := true, named := ["loop.example/g00869/impl.lostMeasure"], apart := false, laid := [("loop.example/g00869/impl.lostMeasure", laid_loop_example_g00869_impl_lostMeasure)] }
def FnExactMeasurePlanSaid : Prop := fnExactMeasurePlanRow.holds Tryd.pinned (OpenSpec.ofChange fnExactMeasurePlanSpec)

/-- ITS FALSE NEIGHBOUR: 'it returns false'. Refute it at one input. -/
def fnExactMeasurePlanWrong : ChangeSpec := { name := "fnExactMeasurePlan", vars := ["loop.example/g00869/impl.lostMeasure"], fn := fun _ => fun
  | [d, g1] => { results := [.lit (.bool false)], args := [d], vars := [g1] }
  | _ => none }
def FnExactMeasurePlanWrongFalsely : Prop := fnExactMeasurePlanRow.holds Tryd.pinned (OpenSpec.ofChange fnExactMeasurePlanWrong)

/-- 'laws.FnExactMeasureWon': WHATEVER THE INPUT: true; the input reads as it did. -/
def fnExactMeasureWonSpec : ChangeSpec := { name := "fnExactMeasureWon", vars := ["loop.example/g00869/impl.lostMeasure"], fn := fun _ => fun
  | [d, g1] => { results := [.lit (.bool true)], args := [d], vars := [g1] }
  | _ => none }
def fnExactMeasureWonRow : OpenClaim := { program := "ytihaajcmephlmaadoor", sum := "d18a08c0446403c9a9561d9e19365210fec1bdabcd8ba1eaa02b386d4ac43767", func := "loop.example/g00869/laws.FnExactMeasureWon", spec := "fnExactMeasureWon", unfollowed := true, recurses := true, named := ["loop.example/g00869/impl.lostMeasure"], apart := false, laid := [("loop.example/g00869/impl.lostMeasure", laid_loop_example_g00869_impl_lostMeasure)] }
def FnExactMeasureWonSaid : Prop := fnExactMeasureWonRow.holds Tryd.pinned (OpenSpec.ofChange fnExactMeasureWonSpec)

/-- ITS FALSE NEIGHBOUR: 'it returns false'. Refute it at one input. -/
def fnExactMeasureWonWrong : ChangeSpec := { name := "fnExactMeasureWon", vars := ["loop.example/g00869/impl.lostMeasure"], fn := fun _ => fun
  | [d, g1] => { results := [.lit (.bool false)], args := [d], vars := [g1] }
  | _ => none }
def FnExactMeasureWonWrongFalsely : Prop := fnExactMeasureWonRow.holds Tryd.pinned (OpenSpec.ofChange fnExactMeasureWonWrong)

/- THE SECOND FORM. 'bulk': how many values and letters a reading holds, each counted each time it is reached (what is shared counts as often as it is met; a slice's spare places count too). A statement '..UptoSaid' is the law's where the arguments, and the package variables that the reading takes, are together of bulk at most 1048576: NARROWER than '..Said'. Prove '..Said' where nothing that the law and all that it calls make is longer than what came in: it says more and counts as full. Else prove '..UptoSaid'. A law counts once. -/
mutual
def uptoBulk {H : Type} : DataW H → Nat
  | .lit (.string bytes) => bytes.length + 1
  | .lit _ => 1
  | .nil => 1
  | .ptr d => uptoBulk d + 1
  | .slice elems spare => uptoBulkAll elems + uptoBulkAll spare + 1
  | .agg parts => uptoBulkAll parts + 1
  | .iface _ d => uptoBulk d + 1
  | .map entries => uptoBulkEntries entries + 1
  | .held _ => 1
def uptoBulkAll {H : Type} : List (DataW H) → Nat
  | [] => 0
  | d :: r => uptoBulk d + uptoBulkAll r
def uptoBulkEntries {H : Type} : List (Lit × DataW H) → Nat
  | [] => 0
  | x :: r => uptoBulkEntry x + uptoBulkEntries r
def uptoBulkEntry {H : Type} : Lit × DataW H → Nat
  | (.string bytes, d) => bytes.length + uptoBulk d + 1
  | (_, d) => uptoBulk d + 1
 end
def uptoSmall : (H : Type) → List (DataW H) → Bool := fun _ ds => decide (uptoBulkAll ds ≤ 1048576)
def OpenSpec.upto (s : _root_.Go.ChangeSpec) : _root_.Go.OpenSpec := { _root_.Go.OpenSpec.ofChange s with cond := some uptoSmall }

/-- 'laws.FnExactTableOk', WHERE WHAT IT READS IS OF BULK AT MOST 1048576: true; the input reads as it did. -/
def fnExactTableOkUptoRow : OpenClaim := { program := "ytihaajcmephlmaadoor", sum := "d18a08c0446403c9a9561d9e19365210fec1bdabcd8ba1eaa02b386d4ac43767", func := "loop.example/g00869/laws.FnExactTableOk", spec := "fnExactTableOk", unfollowed := true, recurses := true, named := ["loop.example/g00869/impl.lostMeasure"], apart := false, laid := [("loop.example/g00869/impl.lostMeasure", laid_loop_example_g00869_impl_lostMeasure)], narrowed := true }
def FnExactTableOkUptoSaid : Prop := fnExactTableOkUptoRow.holds Tryd.pinned (OpenSpec.upto fnExactTableOkSpec)

/-- 'laws.FnExactSteadyIn', WHERE WHAT IT READS IS OF BULK AT MOST 1048576: true; the input reads as it did. -/
def fnExactSteadyInUptoRow : OpenClaim := { program := "ytihaajcmephlmaadoor", sum := "d18a08c0446403c9a9561d9e19365210fec1bdabcd8ba1eaa02b386d4ac43767", func := "loop.example/g00869/laws.FnExactSteadyIn", spec := "fnExactSteadyIn", unfollowed := true, recurses := true, named := ["loop.example/g00869/impl.lostMeasure"], apart := false, laid := [("loop.example/g00869/impl.lostMeasure", laid_loop_example_g00869_impl_lostMeasure)], narrowed := true }
def FnExactSteadyInUptoSaid : Prop := fnExactSteadyInUptoRow.holds Tryd.pinned (OpenSpec.upto fnExactSteadyInSpec)

/-- 'laws.FnExactLeastTable', WHERE WHAT IT READS IS OF BULK AT MOST 1048576: true; the input reads as it did. -/
def fnExactLeastTableUptoRow : OpenClaim := { program := "ytihaajcmephlmaadoor", sum := "d18a08c0446403c9a9561d9e19365210fec1bdabcd8ba1eaa02b386d4ac43767", func := "loop.example/g00869/laws.FnExactLeastTable", spec := "fnExactLeastTable", unfollowed := true, recurses := true, named := ["loop.example/g00869/impl.lostMeasure"], apart := false, laid := [("loop.example/g00869/impl.lostMeasure", laid_loop_example_g00869_impl_lostMeasure)], narrowed := true }
def FnExactLeastTableUptoSaid : Prop := fnExactLeastTableUptoRow.holds Tryd.pinned (OpenSpec.upto fnExactLeastTableSpec)

/-- 'laws.FnExactMeasurePlan', WHERE WHAT IT READS IS OF BULK AT MOST 1048576: true; the input reads as it did. -/
def fnExactMeasurePlanUptoRow : OpenClaim := { program := "ytihaajcmephlmaadoor", sum := "d18a08c0446403c9a9561d9e19365210fec1bdabcd8ba1eaa02b386d4ac43767", func := "loop.example/g00869/laws.FnExactMeasurePlan", spec := "fnExactMeasurePlan", unfollowed := true, recurses := true, named := ["loop.example/g00869/impl.lostMeasure"], apart := false, laid := [("loop.example/g00869/impl.lostMeasure", laid_loop_example_g00869_impl_lostMeasure)], narrowed := true }
def FnExactMeasurePlanUptoSaid : Prop := fnExactMeasurePlanUptoRow.holds Tryd.pinned (OpenSpec.upto fnExactMeasurePlanSpec)

/-- 'laws.FnExactMeasureWon', WHERE WHAT IT READS IS OF BULK AT MOST 1048576: true; the input reads as it did. -/
def fnExactMeasureWonUptoRow : OpenClaim := { program := "ytihaajcmephlmaadoor", sum := "d18a08c0446403c9a9561d9e19365210fec1bdabcd8ba1eaa02b386d4ac43767", func := "loop.example/g00869/laws.FnExactMeasureWon", spec := "fnExactMeasureWon", unfollowed := true, recurses := true, named := ["loop.example/g00869/impl.lostMeasure"], apart := false, laid := [("loop.example/g00869/impl.lostMeasure", laid_loop_example_g00869_impl_lostMeasure)], narrowed := true }
def FnExactMeasureWonUptoSaid : Prop := fnExactMeasureWonUptoRow.holds Tryd.pinned (OpenSpec.upto fnExactMeasureWonSpec)

end Rows
end Go.Proofs.YtihaajcmephlmaaDoor
