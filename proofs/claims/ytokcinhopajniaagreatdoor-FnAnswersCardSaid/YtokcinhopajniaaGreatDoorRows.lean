/-
  NARROWER THAN 'FOR EVERY INPUT', by the rows' own cells (each row's printed sentence says how): FnChecked: ifaces, laid · FnExactBadLoops: ifaces, laid · FnExactCleanIn: ifaces, laid · FnExactWinsBy: ifaces, laid · FnExactAnswerOk: ifaces, laid · FnAnswers: ifaces, laid.
  DERIVED. THE GIVEN ROWS OF THIS SEAT. 6 by the template 'for every input the law returns true; each argument reads behind the call as it read before'; 0 by the template 'total and deterministic' (their statements: YtokcinhopajniaaGreatDoorTotals.lean).
  GIVEN WITH THE SEED: the statements are not yours to turn. If you find one false, say at which input.
  Laid BY PROGRAM, IN A SANDBOX (cutbox-rows.mjs): the forced cells as the released guide's own fill.sh prints them over the translation 046997f6311c4753… (all of the seat's roots in one cut). By AI agents, Wed Nov 11 2026. No macro, syntax, notation, axiom, sorry.
-/
import Derived.Test.YtokcinhopajniaaGreatDoorChecked
import GoSem.Claim
import GoSem.ClaimJoined
import GoSem.ClaimMapViews
import Derived.JoinedTies
import Derived.KernelRfl
namespace Go.Proofs.YtokcinhopajniaaGreatDoor
/- THE CELL 'sum', in the pinned program and in every row, IS THE sha256 OF THE DUMP (.gsa) THAT YtokcinhopajniaaGreatDoorProg.lean LOADS. Nothing in Lean hashes anything: it is a label: what it is worth is what the hold of that sum in a sandbox is worth. -/
noncomputable def Tryz.pinned : Pinned := { name := "ytokcinhopajniaagreatdoor", sum := "046997f6311c4753074501af259968d66c7863cf0fc24bcc8dcf7112f76e24c1", checked := Tryz.checked }
namespace Rows
def none {H : Type} : Left H := { results := [], args := [] }

/- WHAT THE LISTED PACKAGE-LEVEL VARIABLES READ AS WHEN THE CALL BEGINS. Each datum BY PROGRAM (the guide's laid-datum.mjs) off the statement by which the dump's own 'gosem.cut.vars' lays the variable. In a bare row this is a premise. The card (YtokcinhopajniaaGreatDoorCards.lean) ties it to the program's text. -/
def laid_errors_errorType {H : Type} : DataW H := .iface "internal/reflectlite.rtype" (.agg [.ptr (.lit (.string [101, 114, 114, 111, 114]))])
def laid_loop_example_g00869_impl_errInvalid {H : Type} : DataW H := .iface "*errors.errorString" (.ptr (.agg [.lit (.string [97, 110, 32, 97, 114, 103, 117, 109, 101, 110, 116, 32, 105, 115, 32, 110, 111, 116, 32, 118, 97, 108, 105, 100])]))
def laid_loop_example_g00869_impl_errLeaves {H : Type} : DataW H := .iface "*errors.errorString" (.ptr (.agg [.lit (.string [97, 32, 112, 108, 97, 121, 32, 116, 104, 97, 116, 32, 102, 111, 108, 108, 111, 119, 115, 32, 116, 104, 101, 32, 112, 108, 97, 110, 32, 99, 97, 110, 32, 108, 101, 97, 118, 101, 32, 116, 104, 101, 32, 114, 101, 103, 105, 111, 110])]))
def laid_loop_example_g00869_impl_errLoses {H : Type} : DataW H := .iface "*errors.errorString" (.ptr (.agg [.lit (.string [97, 32, 108, 111, 111, 112, 32, 116, 104, 97, 116, 32, 102, 111, 108, 108, 111, 119, 115, 32, 116, 104, 101, 32, 112, 108, 97, 110, 32, 105, 115, 32, 119, 111, 110, 32, 98, 121, 32, 116, 104, 101, 32, 111, 112, 112, 111, 110, 101, 110, 116])]))

/-- 'laws.FnChecked': WHATEVER THE INPUT: true; the input reads as it did. -/
def fnCheckedSpec : ChangeSpec := { name := "fnChecked", vars := ["loop.example/g00869/impl.errInvalid", "loop.example/g00869/impl.errLoses", "loop.example/g00869/impl.errLeaves"], fn := fun _ => fun
  | [d, g1, g2, g3] => { results := [.lit (.bool true)], args := [d], vars := [g1, g2, g3] }
  | _ => none }
def fnCheckedRow : OpenClaim := { program := "ytokcinhopajniaagreatdoor", sum := "046997f6311c4753074501af259968d66c7863cf0fc24bcc8dcf7112f76e24c1", func := "loop.example/g00869/laws.FnChecked", spec := "fnChecked", inPlace := ["internal/reflectlite.TypeOf", "internal/reflectlite.ValueOf", "(internal/reflectlite.Value).Type", "(internal/reflectlite.Value).IsNil", "(internal/reflectlite.Value).Elem", "(internal/reflectlite.Value).Set"], unfollowed := true, recurses := true, named := ["loop.example/g00869/impl.errInvalid", "loop.example/g00869/impl.errLoses", "loop.example/g00869/impl.errLeaves", "errors.errorType"], ifaces := true, apart := false, laid := [("errors.errorType", laid_errors_errorType), ("loop.example/g00869/impl.errInvalid", laid_loop_example_g00869_impl_errInvalid), ("loop.example/g00869/impl.errLeaves", laid_loop_example_g00869_impl_errLeaves), ("loop.example/g00869/impl.errLoses", laid_loop_example_g00869_impl_errLoses)] }
def FnCheckedSaid : Prop := fnCheckedRow.holds Tryz.pinned (OpenSpec.ofChange fnCheckedSpec)

/-- ITS FALSE NEIGHBOUR: 'it returns false'. Refute it at one input. -/
def fnCheckedWrong : ChangeSpec := { name := "fnChecked", vars := ["loop.example/g00869/impl.errInvalid", "loop.example/g00869/impl.errLoses", "loop.example/g00869/impl.errLeaves"], fn := fun _ => fun
  | [d, g1, g2, g3] => { results := [.lit (.bool false)], args := [d], vars := [g1, g2, g3] }
  | _ => none }
def FnCheckedWrongFalsely : Prop := fnCheckedRow.holds Tryz.pinned (OpenSpec.ofChange fnCheckedWrong)

/-- 'laws.FnExactBadLoops': WHATEVER THE INPUT: true; the input reads as it did. -/
def fnExactBadLoopsSpec : ChangeSpec := { name := "fnExactBadLoops", vars := ["loop.example/g00869/impl.errLoses", "loop.example/g00869/impl.errInvalid", "loop.example/g00869/impl.errLeaves"], fn := fun _ => fun
  | [d1, d2, d3, d4, g1, g2, g3] => { results := [.lit (.bool true)], args := [d1, d2, d3, d4], vars := [g1, g2, g3] }
  | _ => none }
def fnExactBadLoopsRow : OpenClaim := { program := "ytokcinhopajniaagreatdoor", sum := "046997f6311c4753074501af259968d66c7863cf0fc24bcc8dcf7112f76e24c1", func := "loop.example/g00869/laws.FnExactBadLoops", spec := "fnExactBadLoops", inPlace := ["internal/reflectlite.TypeOf", "internal/reflectlite.ValueOf", "(internal/reflectlite.Value).Type", "(internal/reflectlite.Value).IsNil", "(internal/reflectlite.Value).Elem", "(internal/reflectlite.Value).Set"], unfollowed := true, recurses := true, named := ["loop.example/g00869/impl.errLoses", "loop.example/g00869/impl.errInvalid", "loop.example/g00869/impl.errLeaves", "errors.errorType"], ifaces := true, apart := false, laid := [("errors.errorType", laid_errors_errorType), ("loop.example/g00869/impl.errInvalid", laid_loop_example_g00869_impl_errInvalid), ("loop.example/g00869/impl.errLeaves", laid_loop_example_g00869_impl_errLeaves), ("loop.example/g00869/impl.errLoses", laid_loop_example_g00869_impl_errLoses)] }
def FnExactBadLoopsSaid : Prop := fnExactBadLoopsRow.holds Tryz.pinned (OpenSpec.ofChange fnExactBadLoopsSpec)

/-- ITS FALSE NEIGHBOUR: 'it returns false'. Refute it at one input. -/
def fnExactBadLoopsWrong : ChangeSpec := { name := "fnExactBadLoops", vars := ["loop.example/g00869/impl.errLoses", "loop.example/g00869/impl.errInvalid", "loop.example/g00869/impl.errLeaves"], fn := fun _ => fun
  | [d1, d2, d3, d4, g1, g2, g3] => { results := [.lit (.bool false)], args := [d1, d2, d3, d4], vars := [g1, g2, g3] }
  | _ => none }
def FnExactBadLoopsWrongFalsely : Prop := fnExactBadLoopsRow.holds Tryz.pinned (OpenSpec.ofChange fnExactBadLoopsWrong)

/-- 'laws.FnExactCleanIn': WHATEVER THE INPUT: true; the input reads as it did. -/
def fnExactCleanInSpec : ChangeSpec := { name := "fnExactCleanIn", vars := ["loop.example/g00869/impl.errLeaves", "loop.example/g00869/impl.errInvalid", "loop.example/g00869/impl.errLoses"], fn := fun _ => fun
  | [d1, d2, d3, d4, g1, g2, g3] => { results := [.lit (.bool true)], args := [d1, d2, d3, d4], vars := [g1, g2, g3] }
  | _ => none }
def fnExactCleanInRow : OpenClaim := { program := "ytokcinhopajniaagreatdoor", sum := "046997f6311c4753074501af259968d66c7863cf0fc24bcc8dcf7112f76e24c1", func := "loop.example/g00869/laws.FnExactCleanIn", spec := "fnExactCleanIn", inPlace := ["internal/reflectlite.TypeOf"], unfollowed := true, recurses := true, named := ["loop.example/g00869/impl.errLeaves", "loop.example/g00869/impl.errInvalid", "loop.example/g00869/impl.errLoses"], ifaces := true, apart := false, laid := [("loop.example/g00869/impl.errInvalid", laid_loop_example_g00869_impl_errInvalid), ("loop.example/g00869/impl.errLeaves", laid_loop_example_g00869_impl_errLeaves), ("loop.example/g00869/impl.errLoses", laid_loop_example_g00869_impl_errLoses)] }
def FnExactCleanInSaid : Prop := fnExactCleanInRow.holds Tryz.pinned (OpenSpec.ofChange fnExactCleanInSpec)

/-- ITS FALSE NEIGHBOUR: 'it returns false'. Refute it at one input. -/
def fnExactCleanInWrong : ChangeSpec := { name := "fnExactCleanIn", vars := ["loop.example/g00869/impl.errLeaves", "loop.example/g00869/impl.errInvalid", "loop.example/g00869/impl.errLoses"], fn := fun _ => fun
  | [d1, d2, d3, d4, g1, g2, g3] => { results := [.lit (.bool false)], args := [d1, d2, d3, d4], vars := [g1, g2, g3] }
  | _ => none }
def FnExactCleanInWrongFalsely : Prop := fnExactCleanInRow.holds Tryz.pinned (OpenSpec.ofChange fnExactCleanInWrong)

/-- 'laws.FnExactWinsBy': WHATEVER THE INPUT: true; the input reads as it did. -/
def fnExactWinsBySpec : ChangeSpec := { name := "fnExactWinsBy", vars := ["loop.example/g00869/impl.errInvalid", "loop.example/g00869/impl.errLoses", "loop.example/g00869/impl.errLeaves"], fn := fun _ => fun
  | [d1, d2, d3, d4, g1, g2, g3] => { results := [.lit (.bool true)], args := [d1, d2, d3, d4], vars := [g1, g2, g3] }
  | _ => none }
def fnExactWinsByRow : OpenClaim := { program := "ytokcinhopajniaagreatdoor", sum := "046997f6311c4753074501af259968d66c7863cf0fc24bcc8dcf7112f76e24c1", func := "loop.example/g00869/laws.FnExactWinsBy", spec := "fnExactWinsBy", inPlace := ["internal/reflectlite.TypeOf"], unfollowed := true, recurses := true, named := ["loop.example/g00869/impl.errInvalid", "loop.example/g00869/impl.errLoses", "loop.example/g00869/impl.errLeaves"], ifaces := true, apart := false, laid := [("loop.example/g00869/impl.errInvalid", laid_loop_example_g00869_impl_errInvalid), ("loop.example/g00869/impl.errLeaves", laid_loop_example_g00869_impl_errLeaves), ("loop.example/g00869/impl.errLoses", laid_loop_example_g00869_impl_errLoses)] }
def FnExactWinsBySaid : Prop := fnExactWinsByRow.holds Tryz.pinned (OpenSpec.ofChange fnExactWinsBySpec)

/-- ITS FALSE NEIGHBOUR: 'it returns false'. Refute it at one input. -/
def fnExactWinsByWrong : ChangeSpec := { name := "fnExactWinsBy", vars := ["loop.example/g00869/impl.errInvalid", "loop.example/g00869/impl.errLoses", "loop.example/g00869/impl.errLeaves"], fn := fun _ => fun
  | [d1, d2, d3, d4, g1, g2, g3] => { results := [.lit (.bool false)], args := [d1, d2, d3, d4], vars := [g1, g2, g3] }
  | _ => none }
def FnExactWinsByWrongFalsely : Prop := fnExactWinsByRow.holds Tryz.pinned (OpenSpec.ofChange fnExactWinsByWrong)

/-- 'laws.FnExactAnswerOk': WHATEVER THE INPUT: true; the input reads as it did. -/
def fnExactAnswerOkSpec : ChangeSpec := { name := "fnExactAnswerOk", vars := ["loop.example/g00869/impl.errInvalid", "loop.example/g00869/impl.errLoses", "loop.example/g00869/impl.errLeaves"], fn := fun _ => fun
  | [d1, d2, g1, g2, g3] => { results := [.lit (.bool true)], args := [d1, d2], vars := [g1, g2, g3] }
  | _ => none }
def fnExactAnswerOkRow : OpenClaim := { program := "ytokcinhopajniaagreatdoor", sum := "046997f6311c4753074501af259968d66c7863cf0fc24bcc8dcf7112f76e24c1", func := "loop.example/g00869/laws.FnExactAnswerOk", spec := "fnExactAnswerOk", inPlace := ["internal/reflectlite.TypeOf"], unfollowed := true, recurses := true, named := ["loop.example/g00869/impl.errInvalid", "loop.example/g00869/impl.errLoses", "loop.example/g00869/impl.errLeaves"], ifaces := true, apart := false, laid := [("loop.example/g00869/impl.errInvalid", laid_loop_example_g00869_impl_errInvalid), ("loop.example/g00869/impl.errLeaves", laid_loop_example_g00869_impl_errLeaves), ("loop.example/g00869/impl.errLoses", laid_loop_example_g00869_impl_errLoses)] }
def FnExactAnswerOkSaid : Prop := fnExactAnswerOkRow.holds Tryz.pinned (OpenSpec.ofChange fnExactAnswerOkSpec)

/-- ITS FALSE NEIGHBOUR: 'it returns false'. Refute it at one input. -/
def fnExactAnswerOkWrong : ChangeSpec := { name := "fnExactAnswerOk", vars := ["loop.example/g00869/impl.errInvalid", "loop.example/g00869/impl.errLoses", "loop.example/g00869/impl.errLeaves"], fn := fun _ => fun
  | [d1, d2, g1, g2, g3] => { results := [.lit (.bool false)], args := [d1, d2], vars := [g1, g2, g3] }
  | _ => none }
def FnExactAnswerOkWrongFalsely : Prop := fnExactAnswerOkRow.holds Tryz.pinned (OpenSpec.ofChange fnExactAnswerOkWrong)

/-- 'laws.FnAnswers': WHATEVER THE INPUT: true; the input reads as it did. -/
def fnAnswersSpec : ChangeSpec := { name := "fnAnswers", vars := ["loop.example/g00869/impl.errInvalid", "loop.example/g00869/impl.errLoses", "loop.example/g00869/impl.errLeaves"], fn := fun _ => fun
  | [d, g1, g2, g3] => { results := [.lit (.bool true)], args := [d], vars := [g1, g2, g3] }
  | _ => none }
def fnAnswersRow : OpenClaim := { program := "ytokcinhopajniaagreatdoor", sum := "046997f6311c4753074501af259968d66c7863cf0fc24bcc8dcf7112f76e24c1", func := "loop.example/g00869/laws.FnAnswers", spec := "fnAnswers", inPlace := ["internal/reflectlite.TypeOf"], unfollowed := true, recurses := true, named := ["loop.example/g00869/impl.errInvalid", "loop.example/g00869/impl.errLoses", "loop.example/g00869/impl.errLeaves"], ifaces := true, apart := false, laid := [("loop.example/g00869/impl.errInvalid", laid_loop_example_g00869_impl_errInvalid), ("loop.example/g00869/impl.errLeaves", laid_loop_example_g00869_impl_errLeaves), ("loop.example/g00869/impl.errLoses", laid_loop_example_g00869_impl_errLoses)] }
def FnAnswersSaid : Prop := fnAnswersRow.holds Tryz.pinned (OpenSpec.ofChange fnAnswersSpec)

/-- ITS FALSE NEIGHBOUR: 'it returns false'. Refute it at one input. -/
def fnAnswersWrong : ChangeSpec := { name := "fnAnswers", vars := ["loop.example/g00869/impl.errInvalid", "loop.example/g00869/impl.errLoses", "loop.example/g00869/impl.errLeaves"], fn := fun _ => fun
  | [d, g1, g2, g3] => { results := [.lit (.bool false)], args := [d], vars := [g1, g2, g3] }
  | _ => none }
def FnAnswersWrongFalsely : Prop := fnAnswersRow.holds Tryz.pinned (OpenSpec.ofChange fnAnswersWrong)

/- THE SECOND FORM. 'bulk': how many values and letters a reading holds, each counted each time it is reached (what is shared counts as often as it is met; a slice's spare places count too). A statement '..UptoSaid' is the law's where the arguments, and the package variables that the reading takes, are together of bulk at most 1048576: NARROWER than '..Said'. Prove '..Said' where nothing that the law and all that it calls make is longer than what came in: it says more and counts as full. Else prove '..UptoSaid'. A law counts once. -/
mutual
def uptoBulk {H : Type} : DataW H → Nat
  | .lit (.string bytes) => bytes.length + 1
  | .lit _ => 1
  | .nil => 1
  | .ptr d => uptoBulk d + 1
  | .slice elems spare => uptoBulkAll elems + uptoBulkAll spare + 1
  | .agg parts => uptoBulkAll parts + 1
  | .iface _ d => uptoBulk d + 1
  | .map entries => uptoBulkEntries entries + 1
  | .held _ => 1
def uptoBulkAll {H : Type} : List (DataW H) → Nat
  | [] => 0
  | d :: r => uptoBulk d + uptoBulkAll r
def uptoBulkEntries {H : Type} : List (Lit × DataW H) → Nat
  | [] => 0
  | x :: r => uptoBulkEntry x + uptoBulkEntries r
def uptoBulkEntry {H : Type} : Lit × DataW H → Nat
  | (.string bytes, d) => bytes.length + uptoBulk d + 1
  | (_, d) => uptoBulk d + 1
 end
def uptoSmall : (H : Type) → List (DataW H) → Bool := fun _ ds => decide (uptoBulkAll ds ≤ 1048576)
def OpenSpec.upto (s : _root_.Go.ChangeSpec) : _root_.Go.OpenSpec := { _root_.Go.OpenSpec.ofChange s with cond := some uptoSmall }

/-- 'laws.FnChecked', WHERE WHAT IT READS IS OF BULK AT MOST 1048576: true; the input reads as it did. -/
def fnCheckedUptoRow : OpenClaim := { program := "ytokcinhopajniaagreatdoor", sum := "046997f6311c4753074501af259968d66c7863cf0fc24bcc8dcf7112f76e24c1", func := "loop.example/g00869/laws.FnChecked", spec := "fnChecked", inPlace := ["internal/reflectlite.TypeOf", "internal/reflectlite.ValueOf", "(internal/reflectlite.Value).Type", "(internal/reflectlite.Value).IsNil", "(internal/reflectlite.Value).Elem", "(internal/reflectlite.Value).Set"], unfollowed := true, recurses := true, named := ["loop.example/g00869/impl.errInvalid", "loop.example/g00869/impl.errLoses", "loop.example/g00869/impl.errLeaves", "errors.errorType"], ifaces := true, apart := false, laid := [("errors.errorType", laid_errors_errorType), ("loop.example/g00869/impl.errInvalid", laid_loop_example_g00869_impl_errInvalid), ("loop.example/g00869/impl.errLeaves", laid_loop_example_g00869_impl_errLeaves), ("loop.example/g00869/impl.errLoses", laid_loop_example_g00869_impl_errLoses)], narrowed := true }
def FnCheckedUptoSaid : Prop := fnCheckedUptoRow.holds Tryz.pinned (OpenSpec.upto fnCheckedSpec)

/-- 'laws.FnExactBadLoops', WHERE WHAT IT READS IS OF BULK AT MOST 1048576: true; the input reads as it did. -/
def fnExactBadLoopsUptoRow : OpenClaim := { program := "ytokcinhopajniaagreatdoor", sum := "046997f6311c4753074501af259968d66c7863cf0fc24bcc8dcf7112f76e24c1", func := "loop.example/g00869/laws.FnExactBadLoops", spec := "fnExactBadLoops", inPlace := ["internal/reflectlite.TypeOf", "internal/reflectlite.ValueOf", "(internal/reflectlite.Value).Type", "(internal/reflectlite.Value).IsNil", "(internal/reflectlite.Value).Elem", "(internal/reflectlite.Value).Set"], unfollowed := true, recurses := true, named := ["loop.example/g00869/impl.errLoses", "loop.example/g00869/impl.errInvalid", "loop.example/g00869/impl.errLeaves", "errors.errorType"], ifaces := true, apart := false, laid := [("errors.errorType", laid_errors_errorType), ("loop.example/g00869/impl.errInvalid", laid_loop_example_g00869_impl_errInvalid), ("loop.example/g00869/impl.errLeaves", laid_loop_example_g00869_impl_errLeaves), ("loop.example/g00869/impl.errLoses", laid_loop_example_g00869_impl_errLoses)], narrowed := true }
def FnExactBadLoopsUptoSaid : Prop := fnExactBadLoopsUptoRow.holds Tryz.pinned (OpenSpec.upto fnExactBadLoopsSpec)

/-- 'laws.FnExactCleanIn', WHERE WHAT IT READS IS OF BULK AT MOST 1048576: true; the input reads as it did. -/
def fnExactCleanInUptoRow : OpenClaim := { program := "ytokcinhopajniaagreatdoor", sum := "046997f6311c4753074501af259968d66c7863cf0fc24bcc8dcf7112f76e24c1", func := "loop.example/g00869/laws.FnExactCleanIn", spec := "fnExactCleanIn", inPlace := ["internal/reflectlite.TypeOf"], unfollowed := true, recurses := true, named := ["loop.example/g00869/impl.errLeaves", "loop.example/g00869/impl.errInvalid", "loop.example/g00869/impl.errLoses"], ifaces := true, apart := false, laid := [("loop.example/g00869/impl.errInvalid", laid_loop_example_g00869_impl_errInvalid), ("loop.example/g00869/impl.errLeaves", laid_loop_example_g00869_impl_errLeaves), ("loop.example/g00869/impl.errLoses", laid_loop_example_g00869_impl_errLoses)], narrowed := true }
def FnExactCleanInUptoSaid : Prop := fnExactCleanInUptoRow.holds Tryz.pinned (OpenSpec.upto fnExactCleanInSpec)

/-- 'laws.FnExactWinsBy', WHERE WHAT IT READS IS OF BULK AT MOST 1048576: true; the input reads as it did. -/
def fnExactWinsByUptoRow : OpenClaim := { program := "ytokcinhopajniaagreatdoor", sum := "046997f6311c4753074501af259968d66c7863cf0fc24bcc8dcf7112f76e24c1", func := "loop.example/g00869/laws.FnExactWinsBy", spec := "fnExactWinsBy", inPlace := ["internal/reflectlite.TypeOf"], unfollowed := true, recurses := true, named := ["loop.example/g00869/impl.errInvalid", "loop.example/g00869/impl.errLoses", "loop.example/g00869/impl.errLeaves"], ifaces := true, apart := false, laid := [("loop.example/g00869/impl.errInvalid", laid_loop_example_g00869_impl_errInvalid), ("loop.example/g00869/impl.errLeaves", laid_loop_example_g00869_impl_errLeaves), ("loop.example/g00869/impl.errLoses", laid_loop_example_g00869_impl_errLoses)], narrowed := true }
def FnExactWinsByUptoSaid : Prop := fnExactWinsByUptoRow.holds Tryz.pinned (OpenSpec.upto fnExactWinsBySpec)

/-- 'laws.FnExactAnswerOk', WHERE WHAT IT READS IS OF BULK AT MOST 1048576: true; the input reads as it did. -/
def fnExactAnswerOkUptoRow : OpenClaim := { program := "ytokcinhopajniaagreatdoor", sum := "046997f6311c4753074501af259968d66c7863cf0fc24bcc8dcf7112f76e24c1", func := "loop.example/g00869/laws.FnExactAnswerOk", spec := "fnExactAnswerOk", inPlace := ["internal/reflectlite.TypeOf"], unfollowed := true, recurses := true, named := ["loop.example/g00869/impl.errInvalid", "loop.example/g00869/impl.errLoses", "loop.example/g00869/impl.errLeaves"], ifaces := true, apart := false, laid := [("loop.example/g00869/impl.errInvalid", laid_loop_example_g00869_impl_errInvalid), ("loop.example/g00869/impl.errLeaves", laid_loop_example_g00869_impl_errLeaves), ("loop.example/g00869/impl.errLoses", laid_loop_example_g00869_impl_errLoses)], narrowed := true }
def FnExactAnswerOkUptoSaid : Prop := fnExactAnswerOkUptoRow.holds Tryz.pinned (OpenSpec.upto fnExactAnswerOkSpec)

/-- 'laws.FnAnswers', WHERE WHAT IT READS IS OF BULK AT MOST 1048576: true; the input reads as it did. -/
def fnAnswersUptoRow : OpenClaim := { program := "ytokcinhopajniaagreatdoor", sum := "046997f6311c4753074501af259968d66c7863cf0fc24bcc8dcf7112f76e24c1", func := "loop.example/g00869/laws.FnAnswers", spec := "fnAnswers", inPlace := ["internal/reflectlite.TypeOf"], unfollowed := true, recurses := true, named := ["loop.example/g00869/impl.errInvalid", "loop.example/g00869/impl.errLoses", "loop.example/g00869/impl.errLeaves"], ifaces := true, apart := false, laid := [("loop.example/g00869/impl.errInvalid", laid_loop_example_g00869_impl_errInvalid), ("loop.example/g00869/impl.errLeaves", laid_loop_example_g00869_impl_errLeaves), ("loop.example/g00869/impl.errLoses", laid_loop_example_g00869_impl_errLoses)], narrowed := true }
def FnAnswersUptoSaid : Prop := fnAnswersUptoRow.holds Tryz.pinned (OpenSpec.upto fnAnswersSpec)

end Rows
end Go.Proofs.YtokcinhopajniaaGreatDoor
