/-
  DERIVED. GIVEN WITH THE SEED: THE CARDS: each row of YtefmkenljongpaaDoorRows.lean that lists a variable, with what it lists TIED to the program's text (the seventh form; the later family's looks); each row that meets fmt, with fmt's text TOLD by the authors' own Lean function (tested against real Go, not proved from fmt's source: count such statements apart). THE CARD IS WHAT COUNTS. Prove the row's statement (the work); the ties are given (YtefmkenljongpaaDoorTie.lean); close each card by the builder's one call (the guide's Derived/Test/ToyasCard.lean, 'card_holds'). Laid BY PROGRAM, IN A SANDBOX (cutbox-door.mjs). By AI agents, Wed Nov 11 2026. No macro, syntax, notation, axiom, sorry.
-/
import Derived.Test.YtefmkenljongpaaDoorRows
import GoSem.ClaimSeven
namespace Go.Proofs.YtefmkenljongpaaDoor
namespace Rows

/-- THE TIED CARD OF 'laws.FnSeenText'. -/
def fnSeenTextCard : Claim7 := { stood := { row := fnSeenTextRow, standIns := [], harness := (true, "8fd3ffa68cf5e91ce403c23a986526cbbf7d7496e32138fd82c03731813ffc54"), looks := false }, kinds := [], alts := [], laidByText := true, laidKinds := [.data, .data, .data], laidTests := true, laidLooks := .later }
def FnSeenTextCardSaid : Prop := Claim7.holds Tryd.pinned (.plain (OpenSpec.ofChange fnSeenTextSpec)) fnSeenTextCard

/-- THE TIED CARD OF 'laws.FnExactSeenText'. -/
def fnExactSeenTextCard : Claim7 := { stood := { row := fnExactSeenTextRow, standIns := [], harness := (true, "8fd3ffa68cf5e91ce403c23a986526cbbf7d7496e32138fd82c03731813ffc54"), looks := false }, kinds := [], alts := [], laidByText := true, laidKinds := [.data, .data, .data], laidTests := true, laidLooks := .later }
def FnExactSeenTextCardSaid : Prop := Claim7.holds Tryd.pinned (.plain (OpenSpec.ofChange fnExactSeenTextSpec)) fnExactSeenTextCard

/-- THE SECOND FORM's CARD OF 'laws.FnSeenText'. -/
def fnSeenTextUptoCard : Claim7 := { stood := { row := fnSeenTextUptoRow, standIns := [], harness := (true, "8fd3ffa68cf5e91ce403c23a986526cbbf7d7496e32138fd82c03731813ffc54"), looks := false }, kinds := [], alts := [], laidByText := true, laidKinds := [.data, .data, .data], laidTests := true, laidLooks := .later }
def FnSeenTextUptoCardSaid : Prop := Claim7.holds Tryd.pinned (.plain (OpenSpec.upto fnSeenTextSpec)) fnSeenTextUptoCard

/-- THE SECOND FORM's CARD OF 'laws.FnExactSeenText'. -/
def fnExactSeenTextUptoCard : Claim7 := { stood := { row := fnExactSeenTextUptoRow, standIns := [], harness := (true, "8fd3ffa68cf5e91ce403c23a986526cbbf7d7496e32138fd82c03731813ffc54"), looks := false }, kinds := [], alts := [], laidByText := true, laidKinds := [.data, .data, .data], laidTests := true, laidLooks := .later }
def FnExactSeenTextUptoCardSaid : Prop := Claim7.holds Tryd.pinned (.plain (OpenSpec.upto fnExactSeenTextSpec)) fnExactSeenTextUptoCard
end Rows
end Go.Proofs.YtefmkenljongpaaDoor
