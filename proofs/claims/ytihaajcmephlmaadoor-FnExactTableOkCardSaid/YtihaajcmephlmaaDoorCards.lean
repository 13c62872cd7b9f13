/-
  DERIVED. GIVEN WITH THE SEED: THE CARDS: each row of YtihaajcmephlmaaDoorRows.lean that lists a variable, with what it lists TIED to the program's text (the seventh form; the later family's looks); each row that meets fmt, with fmt's text TOLD by the authors' own Lean function (tested against real Go, not proved from fmt's source: count such statements apart). THE CARD IS WHAT COUNTS. Prove the row's statement (the work); the ties are given (YtihaajcmephlmaaDoorTie.lean); close each card by the builder's one call (the guide's Derived/Test/ToyasCard.lean, 'card_holds'). Laid BY PROGRAM, IN A SANDBOX (cutbox-door.mjs). By AI agents, Wed Nov 11 2026. No macro, syntax, notation, axiom, sorry.
-/
import Derived.Test.YtihaajcmephlmaaDoorRows
import GoSem.ClaimSeven
namespace Go.Proofs.YtihaajcmephlmaaDoor
namespace Rows

/-- THE TIED CARD OF 'laws.FnExactTableOk'. -/
def fnExactTableOkCard : Claim7 := { stood := { row := fnExactTableOkRow, standIns := [], harness := (true, "0f2177ec264e611049a65fae53eb5e724f8a89e8a90ef20b87d6e3d90cb8dcae"), looks := false }, kinds := [], alts := [], laidByText := true, laidKinds := [.data], laidTests := true, laidLooks := .later }
def FnExactTableOkCardSaid : Prop := Claim7.holds Tryd.pinned (.plain (OpenSpec.ofChange fnExactTableOkSpec)) fnExactTableOkCard

/-- THE TIED CARD OF 'laws.FnExactSteadyIn'. -/
def fnExactSteadyInCard : Claim7 := { stood := { row := fnExactSteadyInRow, standIns := [], harness := (true, "0f2177ec264e611049a65fae53eb5e724f8a89e8a90ef20b87d6e3d90cb8dcae"), looks := false }, kinds := [], alts := [], laidByText := true, laidKinds := [.data], laidTests := true, laidLooks := .later }
def FnExactSteadyInCardSaid : Prop := Claim7.holds Tryd.pinned (.plain (OpenSpec.ofChange fnExactSteadyInSpec)) fnExactSteadyInCard

/-- THE TIED CARD OF 'laws.FnExactLeastTable'. -/
def fnExactLeastTableCard : Claim7 := { stood := { row := fnExactLeastTableRow, standIns := [], harness := (true, "0f2177ec264e611049a65fae53eb5e724f8a89e8a90ef20b87d6e3d90cb8dcae"), looks := false }, kinds := [], alts := [], laidByText := true, laidKinds := [.data], laidTests := true, laidLooks := .later }
def FnExactLeastTableCardSaid : Prop := Claim7.holds Tryd.pinned (.plain (OpenSpec.ofChange fnExactLeastTableSpec)) fnExactLeastTableCard

/-- THE TIED CARD OF 'laws.FnExactMeasurePlan'. -/
def fnExactMeasurePlanCard : Claim7 := { stood := { row := fnExactMeasurePlanRow, standIns := [], harness := (true, "0f2177ec264e611049a65fae53eb5e724f8a89e8a90ef20b87d6e3d90cb8dcae"), looks := false }, kinds := [], alts := [], laidByText := true, laidKinds := [.data], laidTests := true, laidLooks := .later }
def FnExactMeasurePlanCardSaid : Prop := Claim7.holds Tryd.pinned (.plain (OpenSpec.ofChange fnExactMeasurePlanSpec)) fnExactMeasurePlanCard

/-- THE TIED CARD OF 'laws.FnExactMeasureWon'. -/
def fnExactMeasureWonCard : Claim7 := { stood := { row := fnExactMeasureWonRow, standIns := [], harness := (true, "0f2177ec264e611049a65fae53eb5e724f8a89e8a90ef20b87d6e3d90cb8dcae"), looks := false }, kinds := [], alts := [], laidByText := true, laidKinds := [.data], laidTests := true, laidLooks := .later }
def FnExactMeasureWonCardSaid : Prop := Claim7.holds Tryd.pinned (.plain (OpenSpec.ofChange fnExactMeasureWonSpec)) fnExactMeasureWonCard

/-- THE SECOND FORM's CARD OF 'laws.FnExactTableOk'. -/
def fnExactTableOkUptoCard : Claim7 := { stood := { row := fnExactTableOkUptoRow, standIns := [], harness := (true, "0f2177ec264e611049a65fae53eb5e724f8a89e8a90ef20b87d6e3d90cb8dcae"), looks := false }, kinds := [], alts := [], laidByText := true, laidKinds := [.data], laidTests := true, laidLooks := .later }
def FnExactTableOkUptoCardSaid : Prop := Claim7.holds Tryd.pinned (.plain (OpenSpec.upto fnExactTableOkSpec)) fnExactTableOkUptoCard

/-- THE SECOND FORM's CARD OF 'laws.FnExactSteadyIn'. -/
def fnExactSteadyInUptoCard : Claim7 := { stood := { row := fnExactSteadyInUptoRow, standIns := [], harness := (true, "0f2177ec264e611049a65fae53eb5e724f8a89e8a90ef20b87d6e3d90cb8dcae"), looks := false }, kinds := [], alts := [], laidByText := true, laidKinds := [.data], laidTests := true, laidLooks := .later }
def FnExactSteadyInUptoCardSaid : Prop := Claim7.holds Tryd.pinned (.plain (OpenSpec.upto fnExactSteadyInSpec)) fnExactSteadyInUptoCard

/-- THE SECOND FORM's CARD OF 'laws.FnExactLeastTable'. -/
def fnExactLeastTableUptoCard : Claim7 := { stood := { row := fnExactLeastTableUptoRow, standIns := [], harness := (true, "0f2177ec264e611049a65fae53eb5e724f8a89e8a90ef20b87d6e3d90cb8dcae"), looks := false }, kinds := [], alts := [], laidByText := true, laidKinds := [.data], laidTests := true, laidLooks := .later }
def FnExactLeastTableUptoCardSaid : Prop := Claim7.holds Tryd.pinned (.plain (OpenSpec.upto fnExactLeastTableSpec)) fnExactLeastTableUptoCard

/-- THE SECOND FORM's CARD OF 'laws.FnExactMeasurePlan'. -/
def fnExactMeasurePlanUptoCard : Claim7 := { stood := { row := fnExactMeasurePlanUptoRow, standIns := [], harness := (true, "0f2177ec264e611049a65fae53eb5e724f8a89e8a90ef20b87d6e3d90cb8dcae"), looks := false }, kinds := [], alts := [], laidByText := true, laidKinds := [.data], laidTests := true, laidLooks := .later }
def FnExactMeasurePlanUptoCardSaid : Prop := Claim7.holds Tryd.pinned (.plain (OpenSpec.upto fnExactMeasurePlanSpec)) fnExactMeasurePlanUptoCard

/-- THE SECOND FORM's CARD OF 'laws.FnExactMeasureWon'. -/
def fnExactMeasureWonUptoCard : Claim7 := { stood := { row := fnExactMeasureWonUptoRow, standIns := [], harness := (true, "0f2177ec264e611049a65fae53eb5e724f8a89e8a90ef20b87d6e3d90cb8dcae"), looks := false }, kinds := [], alts := [], laidByText := true, laidKinds := [.data], laidTests := true, laidLooks := .later }
def FnExactMeasureWonUptoCardSaid : Prop := Claim7.holds Tryd.pinned (.plain (OpenSpec.upto fnExactMeasureWonSpec)) fnExactMeasureWonUptoCard
end Rows
end Go.Proofs.YtihaajcmephlmaaDoor
