/-
  DERIVED. GIVEN WITH THE SEED: THE CARDS: each row of YtkhhkicfeaeddaaGreatDoorRows.lean that lists a variable, with what it lists TIED to the program's text (the seventh form; the later family's looks); each row that meets fmt, with fmt's text TOLD by the authors' own Lean function (tested against real Go, not proved from fmt's source: count such statements apart). THE CARD IS WHAT COUNTS. Prove the row's statement (the work); the ties are given (YtkhhkicfeaeddaaGreatDoorTie.lean); close each card by the builder's one call (the guide's Derived/Test/ToyasCard.lean, 'card_holds'). Laid BY PROGRAM, IN A SANDBOX (cutbox-door.mjs). By AI agents, Wed Nov 11 2026. No macro, syntax, notation, axiom, sorry.
-/
import Derived.Test.YtkhhkicfeaeddaaGreatDoorRows
import GoSem.ClaimSeven
namespace Go.Proofs.YtkhhkicfeaeddaaGreatDoor
namespace Rows

/-- THE TIED CARD OF 'niblicklaw05.FormatSides'. -/
def formatSidesCard : Claim7 := { stood := { row := formatSidesRow, standIns := [], harness := (true, "0b7f11e18621dd4905efed84753b2aab5504ccdc6087cd4829b327057ab0bfc7"), looks := false }, kinds := [], alts := [], laidByText := true, laidKinds := [.data, .data, .data], laidTests := true, laidLooks := .later }
def FormatSidesCardSaid : Prop := Claim7.holds Tryz.pinned (.plain (OpenSpec.ofChange formatSidesSpec)) formatSidesCard

/-- THE TIED CARD OF 'niblicklaw05.FormatFourballs'. -/
def formatFourballsCard : Claim7 := { stood := { row := formatFourballsRow, standIns := [], harness := (true, "0b7f11e18621dd4905efed84753b2aab5504ccdc6087cd4829b327057ab0bfc7"), looks := false }, kinds := [], alts := [], laidByText := true, laidKinds := [.data, .data, .data], laidTests := true, laidLooks := .later }
def FormatFourballsCardSaid : Prop := Claim7.holds Tryz.pinned (.plain (OpenSpec.ofChange formatFourballsSpec)) formatFourballsCard

/-- THE TIED CARD OF 'niblicklaw05.FormatTurned'. -/
def formatTurnedCard : Claim7 := { stood := { row := formatTurnedRow, standIns := [], harness := (true, "0b7f11e18621dd4905efed84753b2aab5504ccdc6087cd4829b327057ab0bfc7"), looks := false }, kinds := [], alts := [], laidByText := true, laidKinds := [.data, .data, .data], laidTests := true, laidLooks := .later }
def FormatTurnedCardSaid : Prop := Claim7.holds Tryz.pinned (.plain (OpenSpec.ofChange formatTurnedSpec)) formatTurnedCard

/-- THE SECOND FORM's CARD OF 'niblicklaw05.FormatSides'. -/
def formatSidesUptoCard : Claim7 := { stood := { row := formatSidesUptoRow, standIns := [], harness := (true, "0b7f11e18621dd4905efed84753b2aab5504ccdc6087cd4829b327057ab0bfc7"), looks := false }, kinds := [], alts := [], laidByText := true, laidKinds := [.data, .data, .data], laidTests := true, laidLooks := .later }
def FormatSidesUptoCardSaid : Prop := Claim7.holds Tryz.pinned (.plain (OpenSpec.upto formatSidesSpec)) formatSidesUptoCard

/-- THE SECOND FORM's CARD OF 'niblicklaw05.FormatFourballs'. -/
def formatFourballsUptoCard : Claim7 := { stood := { row := formatFourballsUptoRow, standIns := [], harness := (true, "0b7f11e18621dd4905efed84753b2aab5504ccdc6087cd4829b327057ab0bfc7"), looks := false }, kinds := [], alts := [], laidByText := true, laidKinds := [.data, .data, .data], laidTests := true, laidLooks := .later }
def FormatFourballsUptoCardSaid : Prop := Claim7.holds Tryz.pinned (.plain (OpenSpec.upto formatFourballsSpec)) formatFourballsUptoCard

/-- THE SECOND FORM's CARD OF 'niblicklaw05.FormatTurned'. -/
def formatTurnedUptoCard : Claim7 := { stood := { row := formatTurnedUptoRow, standIns := [], harness := (true, "0b7f11e18621dd4905efed84753b2aab5504ccdc6087cd4829b327057ab0bfc7"), looks := false }, kinds := [], alts := [], laidByText := true, laidKinds := [.data, .data, .data], laidTests := true, laidLooks := .later }
def FormatTurnedUptoCardSaid : Prop := Claim7.holds Tryz.pinned (.plain (OpenSpec.upto formatTurnedSpec)) formatTurnedUptoCard
end Rows
end Go.Proofs.YtkhhkicfeaeddaaGreatDoor
