/-
  DERIVED. GIVEN WITH THE SEED: THE CARDS: each row of YtphkgnpkcfbnkaaDoorRows.lean that lists a variable, with what it lists TIED to the program's text (the seventh form; the later family's looks); each row that meets fmt, with fmt's text TOLD by the authors' own Lean function (tested against real Go, not proved from fmt's source: count such statements apart). THE CARD IS WHAT COUNTS. Prove the row's statement (the work); the ties are given (YtphkgnpkcfbnkaaDoorTie.lean); close each card by the builder's one call (the guide's Derived/Test/ToyasCard.lean, 'card_holds'). Laid BY PROGRAM, IN A SANDBOX (cutbox-door.mjs). By AI agents, Wed Nov 11 2026. No macro, syntax, notation, axiom, sorry.
-/
import Derived.Test.YtphkgnpkcfbnkaaDoorRows
import GoSem.ClaimSeven
namespace Go.Proofs.YtphkgnpkcfbnkaaDoor
namespace Rows

/-- THE TIED CARD OF 'laws.FnWinsAll'. -/
def fnWinsAllCard : Claim7 := { stood := { row := fnWinsAllRow, standIns := [], harness := (true, "8eeb3fec12a104ffb089484cfd4adffbd24b44fd94ad4d0c9af33ed679d3f0f0"), looks := false }, kinds := [], alts := [], laidByText := true, laidKinds := [.data], laidTests := true, laidLooks := .later }
def FnWinsAllCardSaid : Prop := Claim7.holds Tryd.pinned (.plain (OpenSpec.ofChange fnWinsAllSpec)) fnWinsAllCard

/-- THE TIED CARD OF 'laws.FnLeastPick'. -/
def fnLeastPickCard : Claim7 := { stood := { row := fnLeastPickRow, standIns := [], harness := (true, "8eeb3fec12a104ffb089484cfd4adffbd24b44fd94ad4d0c9af33ed679d3f0f0"), looks := false }, kinds := [], alts := [], laidByText := true, laidKinds := [.data], laidTests := true, laidLooks := .later }
def FnLeastPickCardSaid : Prop := Claim7.holds Tryd.pinned (.plain (OpenSpec.ofChange fnLeastPickSpec)) fnLeastPickCard

/-- THE TIED CARD OF 'laws.FnGiven'. -/
def fnGivenCard : Claim7 := { stood := { row := fnGivenRow, standIns := [], harness := (true, "8eeb3fec12a104ffb089484cfd4adffbd24b44fd94ad4d0c9af33ed679d3f0f0"), looks := false }, kinds := [], alts := [], laidByText := true, laidKinds := [.data], laidTests := true, laidLooks := .later }
def FnGivenCardSaid : Prop := Claim7.holds Tryd.pinned (.plain (OpenSpec.ofChange fnGivenSpec)) fnGivenCard

/-- THE TIED CARD OF 'laws.FnPartWon'. -/
def fnPartWonCard : Claim7 := { stood := { row := fnPartWonRow, standIns := [], harness := (true, "8eeb3fec12a104ffb089484cfd4adffbd24b44fd94ad4d0c9af33ed679d3f0f0"), looks := false }, kinds := [], alts := [], laidByText := true, laidKinds := [.data], laidTests := true, laidLooks := .later }
def FnPartWonCardSaid : Prop := Claim7.holds Tryd.pinned (.plain (OpenSpec.ofChange fnPartWonSpec)) fnPartWonCard

/-- THE TIED CARD OF 'laws.FnLeastTable'. -/
def fnLeastTableCard : Claim7 := { stood := { row := fnLeastTableRow, standIns := [], harness := (true, "8eeb3fec12a104ffb089484cfd4adffbd24b44fd94ad4d0c9af33ed679d3f0f0"), looks := false }, kinds := [], alts := [], laidByText := true, laidKinds := [.data], laidTests := true, laidLooks := .later }
def FnLeastTableCardSaid : Prop := Claim7.holds Tryd.pinned (.plain (OpenSpec.ofChange fnLeastTableSpec)) fnLeastTableCard

/-- THE TIED CARD OF 'laws.FnLifts'. -/
def fnLiftsCard : Claim7 := { stood := { row := fnLiftsRow, standIns := [], harness := (true, "8eeb3fec12a104ffb089484cfd4adffbd24b44fd94ad4d0c9af33ed679d3f0f0"), looks := false }, kinds := [], alts := [], laidByText := true, laidKinds := [.data], laidTests := true, laidLooks := .later }
def FnLiftsCardSaid : Prop := Claim7.holds Tryd.pinned (.plain (OpenSpec.ofChange fnLiftsSpec)) fnLiftsCard

/-- THE TIED CARD OF 'laws.FnExactWinnerAt'. -/
def fnExactWinnerAtCard : Claim7 := { stood := { row := fnExactWinnerAtRow, standIns := [], harness := (true, "8eeb3fec12a104ffb089484cfd4adffbd24b44fd94ad4d0c9af33ed679d3f0f0"), looks := false }, kinds := [], alts := [], laidByText := true, laidKinds := [.data], laidTests := true, laidLooks := .later }
def FnExactWinnerAtCardSaid : Prop := Claim7.holds Tryd.pinned (.plain (OpenSpec.ofChange fnExactWinnerAtSpec)) fnExactWinnerAtCard

/-- THE TIED CARD OF 'laws.FnExactWonBy'. -/
def fnExactWonByCard : Claim7 := { stood := { row := fnExactWonByRow, standIns := [], harness := (true, "8eeb3fec12a104ffb089484cfd4adffbd24b44fd94ad4d0c9af33ed679d3f0f0"), looks := false }, kinds := [], alts := [], laidByText := true, laidKinds := [.data], laidTests := true, laidLooks := .later }
def FnExactWonByCardSaid : Prop := Claim7.holds Tryd.pinned (.plain (OpenSpec.ofChange fnExactWonBySpec)) fnExactWonByCard

/-- THE TIED CARD OF 'laws.FnExactWonIn'. -/
def fnExactWonInCard : Claim7 := { stood := { row := fnExactWonInRow, standIns := [], harness := (true, "8eeb3fec12a104ffb089484cfd4adffbd24b44fd94ad4d0c9af33ed679d3f0f0"), looks := false }, kinds := [], alts := [], laidByText := true, laidKinds := [.data], laidTests := true, laidLooks := .later }
def FnExactWonInCardSaid : Prop := Claim7.holds Tryd.pinned (.plain (OpenSpec.ofChange fnExactWonInSpec)) fnExactWonInCard

/-- THE SECOND FORM's CARD OF 'laws.FnWinsAll'. -/
def fnWinsAllUptoCard : Claim7 := { stood := { row := fnWinsAllUptoRow, standIns := [], harness := (true, "8eeb3fec12a104ffb089484cfd4adffbd24b44fd94ad4d0c9af33ed679d3f0f0"), looks := false }, kinds := [], alts := [], laidByText := true, laidKinds := [.data], laidTests := true, laidLooks := .later }
def FnWinsAllUptoCardSaid : Prop := Claim7.holds Tryd.pinned (.plain (OpenSpec.upto fnWinsAllSpec)) fnWinsAllUptoCard

/-- THE SECOND FORM's CARD OF 'laws.FnLeastPick'. -/
def fnLeastPickUptoCard : Claim7 := { stood := { row := fnLeastPickUptoRow, standIns := [], harness := (true, "8eeb3fec12a104ffb089484cfd4adffbd24b44fd94ad4d0c9af33ed679d3f0f0"), looks := false }, kinds := [], alts := [], laidByText := true, laidKinds := [.data], laidTests := true, laidLooks := .later }
def FnLeastPickUptoCardSaid : Prop := Claim7.holds Tryd.pinned (.plain (OpenSpec.upto fnLeastPickSpec)) fnLeastPickUptoCard

/-- THE SECOND FORM's CARD OF 'laws.FnGiven'. -/
def fnGivenUptoCard : Claim7 := { stood := { row := fnGivenUptoRow, standIns := [], harness := (true, "8eeb3fec12a104ffb089484cfd4adffbd24b44fd94ad4d0c9af33ed679d3f0f0"), looks := false }, kinds := [], alts := [], laidByText := true, laidKinds := [.data], laidTests := true, laidLooks := .later }
def FnGivenUptoCardSaid : Prop := Claim7.holds Tryd.pinned (.plain (OpenSpec.upto fnGivenSpec)) fnGivenUptoCard

/-- THE SECOND FORM's CARD OF 'laws.FnPartWon'. -/
def fnPartWonUptoCard : Claim7 := { stood := { row := fnPartWonUptoRow, standIns := [], harness := (true, "8eeb3fec12a104ffb089484cfd4adffbd24b44fd94ad4d0c9af33ed679d3f0f0"), looks := false }, kinds := [], alts := [], laidByText := true, laidKinds := [.data], laidTests := true, laidLooks := .later }
def FnPartWonUptoCardSaid : Prop := Claim7.holds Tryd.pinned (.plain (OpenSpec.upto fnPartWonSpec)) fnPartWonUptoCard

/-- THE SECOND FORM's CARD OF 'laws.FnLeastTable'. -/
def fnLeastTableUptoCard : Claim7 := { stood := { row := fnLeastTableUptoRow, standIns := [], harness := (true, "8eeb3fec12a104ffb089484cfd4adffbd24b44fd94ad4d0c9af33ed679d3f0f0"), looks := false }, kinds := [], alts := [], laidByText := true, laidKinds := [.data], laidTests := true, laidLooks := .later }
def FnLeastTableUptoCardSaid : Prop := Claim7.holds Tryd.pinned (.plain (OpenSpec.upto fnLeastTableSpec)) fnLeastTableUptoCard

/-- THE SECOND FORM's CARD OF 'laws.FnLifts'. -/
def fnLiftsUptoCard : Claim7 := { stood := { row := fnLiftsUptoRow, standIns := [], harness := (true, "8eeb3fec12a104ffb089484cfd4adffbd24b44fd94ad4d0c9af33ed679d3f0f0"), looks := false }, kinds := [], alts := [], laidByText := true, laidKinds := [.data], laidTests := true, laidLooks := .later }
def FnLiftsUptoCardSaid : Prop := Claim7.holds Tryd.pinned (.plain (OpenSpec.upto fnLiftsSpec)) fnLiftsUptoCard

/-- THE SECOND FORM's CARD OF 'laws.FnExactWinnerAt'. -/
def fnExactWinnerAtUptoCard : Claim7 := { stood := { row := fnExactWinnerAtUptoRow, standIns := [], harness := (true, "8eeb3fec12a104ffb089484cfd4adffbd24b44fd94ad4d0c9af33ed679d3f0f0"), looks := false }, kinds := [], alts := [], laidByText := true, laidKinds := [.data], laidTests := true, laidLooks := .later }
def FnExactWinnerAtUptoCardSaid : Prop := Claim7.holds Tryd.pinned (.plain (OpenSpec.upto fnExactWinnerAtSpec)) fnExactWinnerAtUptoCard

/-- THE SECOND FORM's CARD OF 'laws.FnExactWonBy'. -/
def fnExactWonByUptoCard : Claim7 := { stood := { row := fnExactWonByUptoRow, standIns := [], harness := (true, "8eeb3fec12a104ffb089484cfd4adffbd24b44fd94ad4d0c9af33ed679d3f0f0"), looks := false }, kinds := [], alts := [], laidByText := true, laidKinds := [.data], laidTests := true, laidLooks := .later }
def FnExactWonByUptoCardSaid : Prop := Claim7.holds Tryd.pinned (.plain (OpenSpec.upto fnExactWonBySpec)) fnExactWonByUptoCard

/-- THE SECOND FORM's CARD OF 'laws.FnExactWonIn'. -/
def fnExactWonInUptoCard : Claim7 := { stood := { row := fnExactWonInUptoRow, standIns := [], harness := (true, "8eeb3fec12a104ffb089484cfd4adffbd24b44fd94ad4d0c9af33ed679d3f0f0"), looks := false }, kinds := [], alts := [], laidByText := true, laidKinds := [.data], laidTests := true, laidLooks := .later }
def FnExactWonInUptoCardSaid : Prop := Claim7.holds Tryd.pinned (.plain (OpenSpec.upto fnExactWonInSpec)) fnExactWonInUptoCard
end Rows
end Go.Proofs.YtphkgnpkcfbnkaaDoor
