/-
  DERIVED. GIVEN WITH THE SEED: THE CARDS: each row of YtnddmlgnngdaoaaGreatDoorRows.lean that lists a variable, with what it lists TIED to the program's text (the seventh form; the later family's looks); each row that meets fmt, with fmt's text TOLD by the authors' own Lean function (tested against real Go, not proved from fmt's source: count such statements apart). THE CARD IS WHAT COUNTS. Prove the row's statement (the work); the ties are given (YtnddmlgnngdaoaaGreatDoorTie.lean); close each card by the builder's one call (the guide's Derived/Test/ToyasCard.lean, 'card_holds'). Laid BY PROGRAM, IN A SANDBOX (cutbox-door.mjs). By AI agents, Wed Nov 11 2026. No macro, syntax, notation, axiom, sorry.
-/
import Derived.Test.YtnddmlgnngdaoaaGreatDoorRows
import GoSem.ClaimSeven
namespace Go.Proofs.YtnddmlgnngdaoaaGreatDoor
namespace Rows

/-- THE TIED CARD OF 'laws.FnLinesShape'. -/
def fnLinesShapeCard : Claim7 := { stood := { row := fnLinesShapeRow, standIns := [], harness := (true, "4ab4d824a4bf7e82b5941cd78cad515e025b7c9e4d70f8dfc9479aadb1895a26"), looks := true }, kinds := [], alts := [], goes := true, laidByText := true, laidKinds := [.data, .data, .data, .sentinel, .sentinel], laidTests := true, laidLooks := .later }
def FnLinesShapeCardSaid : Prop := Claim7.holds Tryz.pinned (.plain (OpenSpec.ofChange fnLinesShapeSpec)) fnLinesShapeCard

/-- THE SECOND FORM's CARD OF 'laws.FnLinesShape'. -/
def fnLinesShapeUptoCard : Claim7 := { stood := { row := fnLinesShapeUptoRow, standIns := [], harness := (true, "4ab4d824a4bf7e82b5941cd78cad515e025b7c9e4d70f8dfc9479aadb1895a26"), looks := true }, kinds := [], alts := [], goes := true, laidByText := true, laidKinds := [.data, .data, .data, .sentinel, .sentinel], laidTests := true, laidLooks := .later }
def FnLinesShapeUptoCardSaid : Prop := Claim7.holds Tryz.pinned (.plain (OpenSpec.upto fnLinesShapeSpec)) fnLinesShapeUptoCard
end Rows
end Go.Proofs.YtnddmlgnngdaoaaGreatDoor
