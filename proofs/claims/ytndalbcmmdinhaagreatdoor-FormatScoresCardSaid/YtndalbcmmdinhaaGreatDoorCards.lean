/-
  DERIVED. GIVEN WITH THE SEED: THE CARDS: each row of YtndalbcmmdinhaaGreatDoorRows.lean that lists a variable, with what it lists TIED to the program's text (the seventh form; the later family's looks); each row that meets fmt, with fmt's text TOLD by the authors' own Lean function (tested against real Go, not proved from fmt's source: count such statements apart). THE CARD IS WHAT COUNTS. Prove the row's statement (the work); the ties are given (YtndalbcmmdinhaaGreatDoorTie.lean); close each card by the builder's one call (the guide's Derived/Test/ToyasCard.lean, 'card_holds'). Laid BY PROGRAM, IN A SANDBOX (cutbox-door.mjs). By AI agents, Wed Nov 11 2026. No macro, syntax, notation, axiom, sorry.
-/
import Derived.Test.YtndalbcmmdinhaaGreatDoorRows
import GoSem.ClaimSeven
namespace Go.Proofs.YtndalbcmmdinhaaGreatDoor
namespace Rows

/-- THE TIED CARD OF 'niblicklaw05.FormatGives'. -/
def formatGivesCard : Claim7 := { stood := { row := formatGivesRow, standIns := [], harness := (true, "2498585956dc448f3abfcb81965de96a16646c5c71664fd99d196ff7519b4b3a"), looks := false }, kinds := [], alts := [], laidByText := true, laidKinds := [.data, .data, .data], laidTests := true, laidLooks := .later }
def FormatGivesCardSaid : Prop := Claim7.holds Tryz.pinned (.plain (OpenSpec.ofChange formatGivesSpec)) formatGivesCard

/-- THE TIED CARD OF 'niblicklaw05.FormatScores'. -/
def formatScoresCard : Claim7 := { stood := { row := formatScoresRow, standIns := [], harness := (true, "2498585956dc448f3abfcb81965de96a16646c5c71664fd99d196ff7519b4b3a"), looks := false }, kinds := [], alts := [], laidByText := true, laidKinds := [.data, .data, .data], laidTests := true, laidLooks := .later }
def FormatScoresCardSaid : Prop := Claim7.holds Tryz.pinned (.plain (OpenSpec.ofChange formatScoresSpec)) formatScoresCard

/-- THE TIED CARD OF 'niblicklaw05.FormatHandicaps'. -/
def formatHandicapsCard : Claim7 := { stood := { row := formatHandicapsRow, standIns := [], harness := (true, "2498585956dc448f3abfcb81965de96a16646c5c71664fd99d196ff7519b4b3a"), looks := false }, kinds := [], alts := [], laidByText := true, laidKinds := [.data, .data, .data], laidTests := true, laidLooks := .later }
def FormatHandicapsCardSaid : Prop := Claim7.holds Tryz.pinned (.plain (OpenSpec.ofChange formatHandicapsSpec)) formatHandicapsCard

/-- THE TIED CARD OF 'niblicklaw05.FormatTies'. -/
def formatTiesCard : Claim7 := { stood := { row := formatTiesRow, standIns := [], harness := (true, "2498585956dc448f3abfcb81965de96a16646c5c71664fd99d196ff7519b4b3a"), looks := false }, kinds := [], alts := [], laidByText := true, laidKinds := [.data, .data, .data], laidTests := true, laidLooks := .later }
def FormatTiesCardSaid : Prop := Claim7.holds Tryz.pinned (.plain (OpenSpec.ofChange formatTiesSpec)) formatTiesCard

/-- THE TIED CARD OF 'niblicklaw05.FormatSums'. -/
def formatSumsCard : Claim7 := { stood := { row := formatSumsRow, standIns := [], harness := (true, "2498585956dc448f3abfcb81965de96a16646c5c71664fd99d196ff7519b4b3a"), looks := false }, kinds := [], alts := [], laidByText := true, laidKinds := [.data, .data, .data], laidTests := true, laidLooks := .later }
def FormatSumsCardSaid : Prop := Claim7.holds Tryz.pinned (.plain (OpenSpec.ofChange formatSumsSpec)) formatSumsCard

/-- THE TIED CARD OF 'niblicklaw05.FormatPreorder'. -/
def formatPreorderCard : Claim7 := { stood := { row := formatPreorderRow, standIns := [], harness := (true, "2498585956dc448f3abfcb81965de96a16646c5c71664fd99d196ff7519b4b3a"), looks := false }, kinds := [], alts := [], laidByText := true, laidKinds := [.data, .data, .data], laidTests := true, laidLooks := .later }
def FormatPreorderCardSaid : Prop := Claim7.holds Tryz.pinned (.plain (OpenSpec.ofChange formatPreorderSpec)) formatPreorderCard

/-- THE SECOND FORM's CARD OF 'niblicklaw05.FormatGives'. -/
def formatGivesUptoCard : Claim7 := { stood := { row := formatGivesUptoRow, standIns := [], harness := (true, "2498585956dc448f3abfcb81965de96a16646c5c71664fd99d196ff7519b4b3a"), looks := false }, kinds := [], alts := [], laidByText := true, laidKinds := [.data, .data, .data], laidTests := true, laidLooks := .later }
def FormatGivesUptoCardSaid : Prop := Claim7.holds Tryz.pinned (.plain (OpenSpec.upto formatGivesSpec)) formatGivesUptoCard

/-- THE SECOND FORM's CARD OF 'niblicklaw05.FormatScores'. -/
def formatScoresUptoCard : Claim7 := { stood := { row := formatScoresUptoRow, standIns := [], harness := (true, "2498585956dc448f3abfcb81965de96a16646c5c71664fd99d196ff7519b4b3a"), looks := false }, kinds := [], alts := [], laidByText := true, laidKinds := [.data, .data, .data], laidTests := true, laidLooks := .later }
def FormatScoresUptoCardSaid : Prop := Claim7.holds Tryz.pinned (.plain (OpenSpec.upto formatScoresSpec)) formatScoresUptoCard

/-- THE SECOND FORM's CARD OF 'niblicklaw05.FormatHandicaps'. -/
def formatHandicapsUptoCard : Claim7 := { stood := { row := formatHandicapsUptoRow, standIns := [], harness := (true, "2498585956dc448f3abfcb81965de96a16646c5c71664fd99d196ff7519b4b3a"), looks := false }, kinds := [], alts := [], laidByText := true, laidKinds := [.data, .data, .data], laidTests := true, laidLooks := .later }
def FormatHandicapsUptoCardSaid : Prop := Claim7.holds Tryz.pinned (.plain (OpenSpec.upto formatHandicapsSpec)) formatHandicapsUptoCard

/-- THE SECOND FORM's CARD OF 'niblicklaw05.FormatTies'. -/
def formatTiesUptoCard : Claim7 := { stood := { row := formatTiesUptoRow, standIns := [], harness := (true, "2498585956dc448f3abfcb81965de96a16646c5c71664fd99d196ff7519b4b3a"), looks := false }, kinds := [], alts := [], laidByText := true, laidKinds := [.data, .data, .data], laidTests := true, laidLooks := .later }
def FormatTiesUptoCardSaid : Prop := Claim7.holds Tryz.pinned (.plain (OpenSpec.upto formatTiesSpec)) formatTiesUptoCard

/-- THE SECOND FORM's CARD OF 'niblicklaw05.FormatSums'. -/
def formatSumsUptoCard : Claim7 := { stood := { row := formatSumsUptoRow, standIns := [], harness := (true, "2498585956dc448f3abfcb81965de96a16646c5c71664fd99d196ff7519b4b3a"), looks := false }, kinds := [], alts := [], laidByText := true, laidKinds := [.data, .data, .data], laidTests := true, laidLooks := .later }
def FormatSumsUptoCardSaid : Prop := Claim7.holds Tryz.pinned (.plain (OpenSpec.upto formatSumsSpec)) formatSumsUptoCard

/-- THE SECOND FORM's CARD OF 'niblicklaw05.FormatPreorder'. -/
def formatPreorderUptoCard : Claim7 := { stood := { row := formatPreorderUptoRow, standIns := [], harness := (true, "2498585956dc448f3abfcb81965de96a16646c5c71664fd99d196ff7519b4b3a"), looks := false }, kinds := [], alts := [], laidByText := true, laidKinds := [.data, .data, .data], laidTests := true, laidLooks := .later }
def FormatPreorderUptoCardSaid : Prop := Claim7.holds Tryz.pinned (.plain (OpenSpec.upto formatPreorderSpec)) formatPreorderUptoCard
end Rows
end Go.Proofs.YtndalbcmmdinhaaGreatDoor
