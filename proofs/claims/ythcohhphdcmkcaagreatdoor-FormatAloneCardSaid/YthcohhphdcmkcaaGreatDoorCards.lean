/-
  DERIVED. GIVEN WITH THE SEED: THE CARDS: each row of YthcohhphdcmkcaaGreatDoorRows.lean that lists a variable, with what it lists TIED to the program's text (the seventh form; the later family's looks); each row that meets fmt, with fmt's text TOLD by the authors' own Lean function (tested against real Go, not proved from fmt's source: count such statements apart). THE CARD IS WHAT COUNTS. Prove the row's statement (the work); the ties are given (YthcohhphdcmkcaaGreatDoorTie.lean); close each card by the builder's one call (the guide's Derived/Test/ToyasCard.lean, 'card_holds'). Laid BY PROGRAM, IN A SANDBOX (cutbox-door.mjs). By AI agents, Wed Nov 11 2026. No macro, syntax, notation, axiom, sorry.
-/
import Derived.Test.YthcohhphdcmkcaaGreatDoorRows
import GoSem.ClaimSeven
namespace Go.Proofs.YthcohhphdcmkcaaGreatDoor
namespace Rows

/-- THE TIED CARD OF 'niblicklaw05.FormatMatches'. -/
def formatMatchesCard : Claim7 := { stood := { row := formatMatchesRow, standIns := [], harness := (true, "c699051aae23a5e70f62ab8532975d531b2c84cfd4747c6b6283f17e8eee6d7c"), looks := false }, kinds := [], alts := [], laidByText := true, laidKinds := [.data, .data, .data], laidTests := true, laidLooks := .later }
def FormatMatchesCardSaid : Prop := Claim7.holds Tryz.pinned (.plain (OpenSpec.ofChange formatMatchesSpec)) formatMatchesCard

/-- THE TIED CARD OF 'niblicklaw05.FormatAlone'. -/
def formatAloneCard : Claim7 := { stood := { row := formatAloneRow, standIns := [], harness := (true, "c699051aae23a5e70f62ab8532975d531b2c84cfd4747c6b6283f17e8eee6d7c"), looks := false }, kinds := [], alts := [], laidByText := true, laidKinds := [.data, .data, .data], laidTests := true, laidLooks := .later }
def FormatAloneCardSaid : Prop := Claim7.holds Tryz.pinned (.plain (OpenSpec.ofChange formatAloneSpec)) formatAloneCard

/-- THE SECOND FORM's CARD OF 'niblicklaw05.FormatMatches'. -/
def formatMatchesUptoCard : Claim7 := { stood := { row := formatMatchesUptoRow, standIns := [], harness := (true, "c699051aae23a5e70f62ab8532975d531b2c84cfd4747c6b6283f17e8eee6d7c"), looks := false }, kinds := [], alts := [], laidByText := true, laidKinds := [.data, .data, .data], laidTests := true, laidLooks := .later }
def FormatMatchesUptoCardSaid : Prop := Claim7.holds Tryz.pinned (.plain (OpenSpec.upto formatMatchesSpec)) formatMatchesUptoCard

/-- THE SECOND FORM's CARD OF 'niblicklaw05.FormatAlone'. -/
def formatAloneUptoCard : Claim7 := { stood := { row := formatAloneUptoRow, standIns := [], harness := (true, "c699051aae23a5e70f62ab8532975d531b2c84cfd4747c6b6283f17e8eee6d7c"), looks := false }, kinds := [], alts := [], laidByText := true, laidKinds := [.data, .data, .data], laidTests := true, laidLooks := .later }
def FormatAloneUptoCardSaid : Prop := Claim7.holds Tryz.pinned (.plain (OpenSpec.upto formatAloneSpec)) formatAloneUptoCard
end Rows
end Go.Proofs.YthcohhphdcmkcaaGreatDoor
