/-
  DERIVED. GIVEN WITH THE SEED: THE CARDS: each row of YtokcinhopajniaaDoorRows.lean that lists a variable, with what it lists TIED to the program's text (the seventh form; the later family's looks); each row that meets fmt, with fmt's text TOLD by the authors' own Lean function (tested against real Go, not proved from fmt's source: count such statements apart). THE CARD IS WHAT COUNTS. Prove the row's statement (the work); the ties are given (YtokcinhopajniaaDoorTie.lean); close each card by the builder's one call (the guide's Derived/Test/ToyasCard.lean, 'card_holds'). Laid BY PROGRAM, IN A SANDBOX (cutbox-door.mjs). By AI agents, Wed Nov 11 2026. No macro, syntax, notation, axiom, sorry.
-/
import Derived.Test.YtokcinhopajniaaDoorRows
import GoSem.ClaimSeven
namespace Go.Proofs.YtokcinhopajniaaDoor
namespace Rows

/-- THE TIED CARD OF 'laws.FnExactClosedIn'. -/
def fnExactClosedInCard : Claim7 := { stood := { row := fnExactClosedInRow, standIns := [], harness := (true, "b7b0ebe230d3667ff6f0a3730a701bb5ecb5025c226b43e17f7e6709f946fbd9"), looks := false }, kinds := [], alts := [], laidByText := true, laidKinds := [.sentinel, .sentinel], laidTests := true, laidLooks := .later }
def FnExactClosedInCardSaid : Prop := Claim7.holds Tryd.pinned (.plain (OpenSpec.ofChange fnExactClosedInSpec)) fnExactClosedInCard

/-- THE SECOND FORM's CARD OF 'laws.FnExactClosedIn'. -/
def fnExactClosedInUptoCard : Claim7 := { stood := { row := fnExactClosedInUptoRow, standIns := [], harness := (true, "b7b0ebe230d3667ff6f0a3730a701bb5ecb5025c226b43e17f7e6709f946fbd9"), looks := false }, kinds := [], alts := [], laidByText := true, laidKinds := [.sentinel, .sentinel], laidTests := true, laidLooks := .later }
def FnExactClosedInUptoCardSaid : Prop := Claim7.holds Tryd.pinned (.plain (OpenSpec.upto fnExactClosedInSpec)) fnExactClosedInUptoCard
end Rows
end Go.Proofs.YtokcinhopajniaaDoor
