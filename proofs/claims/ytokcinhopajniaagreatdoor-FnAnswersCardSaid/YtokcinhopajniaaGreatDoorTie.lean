/-
  DERIVED. GIVEN WITH THE SEED: THE PROGRAM's TIES (one call each: nine closed facts by the kernel) AND EACH ROW's TIE, after the 31st guide's Derived/Test/Toyas{Tie, Card}.lean. No idea stands in it: it is a product of the set-up. Laid BY PROGRAM, IN A SANDBOX (cutbox-door.mjs). By AI agents, Wed Nov 11 2026. No macro, syntax, notation, axiom, sorry.
-/
import Derived.Test.YtokcinhopajniaaGreatDoorRows
import Derived.LaidByTextLater
import Derived.SevenTiedAt
import Derived.LaidSub
import Derived.LaidOnce
namespace Go.Proofs.YtokcinhopajniaaGreatDoor
open Go
set_option maxRecDepth 100000
theorem seatTie1 : Tryz.prog.laidByTextLater [("errors.errorType", Rows.laid_errors_errorType), ("loop.example/g00869/impl.errInvalid", Rows.laid_loop_example_g00869_impl_errInvalid), ("loop.example/g00869/impl.errLeaves", Rows.laid_loop_example_g00869_impl_errLeaves), ("loop.example/g00869/impl.errLoses", Rows.laid_loop_example_g00869_impl_errLoses)] [.handle, .sentinel, .sentinel, .sentinel] true :=
  Program.laidByTextLater_by_one 73 8 2 (by kernel_rfl) (by kernel_rfl) (by kernel_rfl) (by kernel_rfl) (by kernel_rfl) (by kernel_rfl) (fun _ _ => by kernel_rfl)
theorem noOwnUnsafe : Tryz.pinned.checked.prog.headLifts.contains "ownunsafe" = false := by kernel_rfl
theorem tie : Tryz.prog.laidByTextLater [("errors.errorType", Rows.laid_errors_errorType), ("loop.example/g00869/impl.errInvalid", Rows.laid_loop_example_g00869_impl_errInvalid), ("loop.example/g00869/impl.errLeaves", Rows.laid_loop_example_g00869_impl_errLeaves), ("loop.example/g00869/impl.errLoses", Rows.laid_loop_example_g00869_impl_errLoses)] [.handle, .sentinel, .sentinel, .sentinel] true :=
  Program.laidByTextLater.sub seatTie1 ["errors.errorType", "loop.example/g00869/impl.errInvalid", "loop.example/g00869/impl.errLeaves", "loop.example/g00869/impl.errLoses"] (by kernel_rfl) (by kernel_rfl)
theorem fnChecked_row_tie : Rows.fnCheckedRow.laidByTextAt .later Tryz.pinned [.handle, .sentinel, .sentinel, .sentinel] true :=
  OpenClaim.laidByTextAt_later rfl rfl tie noOwnUnsafe
theorem fnExactBadLoops_row_tie : Rows.fnExactBadLoopsRow.laidByTextAt .later Tryz.pinned [.handle, .sentinel, .sentinel, .sentinel] true :=
  OpenClaim.laidByTextAt_later rfl rfl tie noOwnUnsafe
theorem tie2 : Tryz.prog.laidByTextLater [("loop.example/g00869/impl.errInvalid", Rows.laid_loop_example_g00869_impl_errInvalid), ("loop.example/g00869/impl.errLeaves", Rows.laid_loop_example_g00869_impl_errLeaves), ("loop.example/g00869/impl.errLoses", Rows.laid_loop_example_g00869_impl_errLoses)] [.sentinel, .sentinel, .sentinel] true :=
  Program.laidByTextLater.sub seatTie1 ["loop.example/g00869/impl.errInvalid", "loop.example/g00869/impl.errLeaves", "loop.example/g00869/impl.errLoses"] (by kernel_rfl) (by kernel_rfl)
theorem fnExactCleanIn_row_tie : Rows.fnExactCleanInRow.laidByTextAt .later Tryz.pinned [.sentinel, .sentinel, .sentinel] true :=
  OpenClaim.laidByTextAt_later rfl rfl tie2 noOwnUnsafe
theorem fnExactWinsBy_row_tie : Rows.fnExactWinsByRow.laidByTextAt .later Tryz.pinned [.sentinel, .sentinel, .sentinel] true :=
  OpenClaim.laidByTextAt_later rfl rfl tie2 noOwnUnsafe
theorem fnExactAnswerOk_row_tie : Rows.fnExactAnswerOkRow.laidByTextAt .later Tryz.pinned [.sentinel, .sentinel, .sentinel] true :=
  OpenClaim.laidByTextAt_later rfl rfl tie2 noOwnUnsafe
theorem fnAnswers_row_tie : Rows.fnAnswersRow.laidByTextAt .later Tryz.pinned [.sentinel, .sentinel, .sentinel] true :=
  OpenClaim.laidByTextAt_later rfl rfl tie2 noOwnUnsafe
theorem fnCheckedUpto_row_tie : Rows.fnCheckedUptoRow.laidByTextAt .later Tryz.pinned [.handle, .sentinel, .sentinel, .sentinel] true :=
  OpenClaim.laidByTextAt_later rfl rfl tie noOwnUnsafe
theorem fnExactBadLoopsUpto_row_tie : Rows.fnExactBadLoopsUptoRow.laidByTextAt .later Tryz.pinned [.handle, .sentinel, .sentinel, .sentinel] true :=
  OpenClaim.laidByTextAt_later rfl rfl tie noOwnUnsafe
theorem fnExactCleanInUpto_row_tie : Rows.fnExactCleanInUptoRow.laidByTextAt .later Tryz.pinned [.sentinel, .sentinel, .sentinel] true :=
  OpenClaim.laidByTextAt_later rfl rfl tie2 noOwnUnsafe
theorem fnExactWinsByUpto_row_tie : Rows.fnExactWinsByUptoRow.laidByTextAt .later Tryz.pinned [.sentinel, .sentinel, .sentinel] true :=
  OpenClaim.laidByTextAt_later rfl rfl tie2 noOwnUnsafe
theorem fnExactAnswerOkUpto_row_tie : Rows.fnExactAnswerOkUptoRow.laidByTextAt .later Tryz.pinned [.sentinel, .sentinel, .sentinel] true :=
  OpenClaim.laidByTextAt_later rfl rfl tie2 noOwnUnsafe
theorem fnAnswersUpto_row_tie : Rows.fnAnswersUptoRow.laidByTextAt .later Tryz.pinned [.sentinel, .sentinel, .sentinel] true :=
  OpenClaim.laidByTextAt_later rfl rfl tie2 noOwnUnsafe
end Go.Proofs.YtokcinhopajniaaGreatDoor
