/-
  DERIVED. GIVEN WITH THE SEED: THE CARDS: each row of YtokcinhopajniaaGreatDoorRows.lean that lists a variable, with what it lists TIED to the program's text (the seventh form; the later family's looks); each row that meets fmt, with fmt's text TOLD by the authors' own Lean function (tested against real Go, not proved from fmt's source: count such statements apart). THE CARD IS WHAT COUNTS. Prove the row's statement (the work); the ties are given (YtokcinhopajniaaGreatDoorTie.lean); close each card by the builder's one call (the guide's Derived/Test/ToyasCard.lean, 'card_holds'). Laid BY PROGRAM, IN A SANDBOX (cutbox-door.mjs). By AI agents, Wed Nov 11 2026. No macro, syntax, notation, axiom, sorry.
-/
import Derived.Test.YtokcinhopajniaaGreatDoorRows
import GoSem.ClaimSeven
namespace Go.Proofs.YtokcinhopajniaaGreatDoor
namespace Rows

/-- THE TIED CARD OF 'laws.FnChecked'. -/
def fnCheckedCard : Claim7 := { stood := { row := fnCheckedRow, standIns := [], harness := (true, "981ab469734b235bdd764d1266c884372927a767a1f2fadc2ef045c4e60ca48f"), looks := true }, kinds := [], alts := [], laidByText := true, laidKinds := [.handle, .sentinel, .sentinel, .sentinel], laidTests := true, laidLooks := .later }
def FnCheckedCardSaid : Prop := Claim7.holds Tryz.pinned (.plain (OpenSpec.ofChange fnCheckedSpec)) fnCheckedCard

/-- THE TIED CARD OF 'laws.FnExactBadLoops'. -/
def fnExactBadLoopsCard : Claim7 := { stood := { row := fnExactBadLoopsRow, standIns := [], harness := (true, "981ab469734b235bdd764d1266c884372927a767a1f2fadc2ef045c4e60ca48f"), looks := true }, kinds := [], alts := [], laidByText := true, laidKinds := [.handle, .sentinel, .sentinel, .sentinel], laidTests := true, laidLooks := .later }
def FnExactBadLoopsCardSaid : Prop := Claim7.holds Tryz.pinned (.plain (OpenSpec.ofChange fnExactBadLoopsSpec)) fnExactBadLoopsCard

/-- THE TIED CARD OF 'laws.FnExactCleanIn'. -/
def fnExactCleanInCard : Claim7 := { stood := { row := fnExactCleanInRow, standIns := [], harness := (true, "981ab469734b235bdd764d1266c884372927a767a1f2fadc2ef045c4e60ca48f"), looks := true }, kinds := [], alts := [], laidByText := true, laidKinds := [.sentinel, .sentinel, .sentinel], laidTests := true, laidLooks := .later }
def FnExactCleanInCardSaid : Prop := Claim7.holds Tryz.pinned (.plain (OpenSpec.ofChange fnExactCleanInSpec)) fnExactCleanInCard

/-- THE TIED CARD OF 'laws.FnExactWinsBy'. -/
def fnExactWinsByCard : Claim7 := { stood := { row := fnExactWinsByRow, standIns := [], harness := (true, "981ab469734b235bdd764d1266c884372927a767a1f2fadc2ef045c4e60ca48f"), looks := true }, kinds := [], alts := [], laidByText := true, laidKinds := [.sentinel, .sentinel, .sentinel], laidTests := true, laidLooks := .later }
def FnExactWinsByCardSaid : Prop := Claim7.holds Tryz.pinned (.plain (OpenSpec.ofChange fnExactWinsBySpec)) fnExactWinsByCard

/-- THE TIED CARD OF 'laws.FnExactAnswerOk'. -/
def fnExactAnswerOkCard : Claim7 := { stood := { row := fnExactAnswerOkRow, standIns := [], harness := (true, "981ab469734b235bdd764d1266c884372927a767a1f2fadc2ef045c4e60ca48f"), looks := true }, kinds := [], alts := [], laidByText := true, laidKinds := [.sentinel, .sentinel, .sentinel], laidTests := true, laidLooks := .later }
def FnExactAnswerOkCardSaid : Prop := Claim7.holds Tryz.pinned (.plain (OpenSpec.ofChange fnExactAnswerOkSpec)) fnExactAnswerOkCard

/-- THE TIED CARD OF 'laws.FnAnswers'. -/
def fnAnswersCard : Claim7 := { stood := { row := fnAnswersRow, standIns := [], harness := (true, "981ab469734b235bdd764d1266c884372927a767a1f2fadc2ef045c4e60ca48f"), looks := true }, kinds := [], alts := [], laidByText := true, laidKinds := [.sentinel, .sentinel, .sentinel], laidTests := true, laidLooks := .later }
def FnAnswersCardSaid : Prop := Claim7.holds Tryz.pinned (.plain (OpenSpec.ofChange fnAnswersSpec)) fnAnswersCard

/-- THE SECOND FORM's CARD OF 'laws.FnChecked'. -/
def fnCheckedUptoCard : Claim7 := { stood := { row := fnCheckedUptoRow, standIns := [], harness := (true, "981ab469734b235bdd764d1266c884372927a767a1f2fadc2ef045c4e60ca48f"), looks := true }, kinds := [], alts := [], laidByText := true, laidKinds := [.handle, .sentinel, .sentinel, .sentinel], laidTests := true, laidLooks := .later }
def FnCheckedUptoCardSaid : Prop := Claim7.holds Tryz.pinned (.plain (OpenSpec.upto fnCheckedSpec)) fnCheckedUptoCard

/-- THE SECOND FORM's CARD OF 'laws.FnExactBadLoops'. -/
def fnExactBadLoopsUptoCard : Claim7 := { stood := { row := fnExactBadLoopsUptoRow, standIns := [], harness := (true, "981ab469734b235bdd764d1266c884372927a767a1f2fadc2ef045c4e60ca48f"), looks := true }, kinds := [], alts := [], laidByText := true, laidKinds := [.handle, .sentinel, .sentinel, .sentinel], laidTests := true, laidLooks := .later }
def FnExactBadLoopsUptoCardSaid : Prop := Claim7.holds Tryz.pinned (.plain (OpenSpec.upto fnExactBadLoopsSpec)) fnExactBadLoopsUptoCard

/-- THE SECOND FORM's CARD OF 'laws.FnExactCleanIn'. -/
def fnExactCleanInUptoCard : Claim7 := { stood := { row := fnExactCleanInUptoRow, standIns := [], harness := (true, "981ab469734b235bdd764d1266c884372927a767a1f2fadc2ef045c4e60ca48f"), looks := true }, kinds := [], alts := [], laidByText := true, laidKinds := [.sentinel, .sentinel, .sentinel], laidTests := true, laidLooks := .later }
def FnExactCleanInUptoCardSaid : Prop := Claim7.holds Tryz.pinned (.plain (OpenSpec.upto fnExactCleanInSpec)) fnExactCleanInUptoCard

/-- THE SECOND FORM's CARD OF 'laws.FnExactWinsBy'. -/
def fnExactWinsByUptoCard : Claim7 := { stood := { row := fnExactWinsByUptoRow, standIns := [], harness := (true, "981ab469734b235bdd764d1266c884372927a767a1f2fadc2ef045c4e60ca48f"), looks := true }, kinds := [], alts := [], laidByText := true, laidKinds := [.sentinel, .sentinel, .sentinel], laidTests := true, laidLooks := .later }
def FnExactWinsByUptoCardSaid : Prop := Claim7.holds Tryz.pinned (.plain (OpenSpec.upto fnExactWinsBySpec)) fnExactWinsByUptoCard

/-- THE SECOND FORM's CARD OF 'laws.FnExactAnswerOk'. -/
def fnExactAnswerOkUptoCard : Claim7 := { stood := { row := fnExactAnswerOkUptoRow, standIns := [], harness := (true, "981ab469734b235bdd764d1266c884372927a767a1f2fadc2ef045c4e60ca48f"), looks := true }, kinds := [], alts := [], laidByText := true, laidKinds := [.sentinel, .sentinel, .sentinel], laidTests := true, laidLooks := .later }
def FnExactAnswerOkUptoCardSaid : Prop := Claim7.holds Tryz.pinned (.plain (OpenSpec.upto fnExactAnswerOkSpec)) fnExactAnswerOkUptoCard

/-- THE SECOND FORM's CARD OF 'laws.FnAnswers'. -/
def fnAnswersUptoCard : Claim7 := { stood := { row := fnAnswersUptoRow, standIns := [], harness := (true, "981ab469734b235bdd764d1266c884372927a767a1f2fadc2ef045c4e60ca48f"), looks := true }, kinds := [], alts := [], laidByText := true, laidKinds := [.sentinel, .sentinel, .sentinel], laidTests := true, laidLooks := .later }
def FnAnswersUptoCardSaid : Prop := Claim7.holds Tryz.pinned (.plain (OpenSpec.upto fnAnswersSpec)) fnAnswersUptoCard
end Rows
end Go.Proofs.YtokcinhopajniaaGreatDoor
