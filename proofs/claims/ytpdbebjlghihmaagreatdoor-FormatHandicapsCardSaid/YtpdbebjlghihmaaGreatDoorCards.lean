/-
  DERIVED. GIVEN WITH THE SEED: THE CARDS: each row of YtpdbebjlghihmaaGreatDoorRows.lean that lists a variable, with what it lists TIED to the program's text (the seventh form; the later family's looks); each row that meets fmt, with fmt's text TOLD by the authors' own Lean function (tested against real Go, not proved from fmt's source: count such statements apart). THE CARD IS WHAT COUNTS. Prove the row's statement (the work); the ties are given (YtpdbebjlghihmaaGreatDoorTie.lean); close each card by the builder's one call (the guide's Derived/Test/ToyasCard.lean, 'card_holds'). Laid BY PROGRAM, IN A SANDBOX (cutbox-door.mjs). By AI agents, Wed Nov 11 2026. No macro, syntax, notation, axiom, sorry.
-/
import Derived.Test.YtpdbebjlghihmaaGreatDoorRows
import GoSem.ClaimSeven
namespace Go.Proofs.YtpdbebjlghihmaaGreatDoor
namespace Rows

/-- THE TIED CARD OF 'niblicklaw05.FormatHandicaps'. -/
def formatHandicapsCard : Claim7 := { stood := { row := formatHandicapsRow, standIns := [], harness := (true, "b3e393f25547260596531fc7f4d9a2cd34582bc3198eb54cd3143620dd8f7dc4"), looks := false }, kinds := [], alts := [], laidByText := true, laidKinds := [.data, .data, .data], laidTests := true, laidLooks := .later }
def FormatHandicapsCardSaid : Prop := Claim7.holds Tryz.pinned (.plain (OpenSpec.ofChange formatHandicapsSpec)) formatHandicapsCard

/-- THE TIED CARD OF 'niblicklaw05.FormatFourballs'. -/
def formatFourballsCard : Claim7 := { stood := { row := formatFourballsRow, standIns := [], harness := (true, "b3e393f25547260596531fc7f4d9a2cd34582bc3198eb54cd3143620dd8f7dc4"), looks := false }, kinds := [], alts := [], laidByText := true, laidKinds := [.data, .data, .data], laidTests := true, laidLooks := .later }
def FormatFourballsCardSaid : Prop := Claim7.holds Tryz.pinned (.plain (OpenSpec.ofChange formatFourballsSpec)) formatFourballsCard

/-- THE SECOND FORM's CARD OF 'niblicklaw05.FormatHandicaps'. -/
def formatHandicapsUptoCard : Claim7 := { stood := { row := formatHandicapsUptoRow, standIns := [], harness := (true, "b3e393f25547260596531fc7f4d9a2cd34582bc3198eb54cd3143620dd8f7dc4"), looks := false }, kinds := [], alts := [], laidByText := true, laidKinds := [.data, .data, .data], laidTests := true, laidLooks := .later }
def FormatHandicapsUptoCardSaid : Prop := Claim7.holds Tryz.pinned (.plain (OpenSpec.upto formatHandicapsSpec)) formatHandicapsUptoCard

/-- THE SECOND FORM's CARD OF 'niblicklaw05.FormatFourballs'. -/
def formatFourballsUptoCard : Claim7 := { stood := { row := formatFourballsUptoRow, standIns := [], harness := (true, "b3e393f25547260596531fc7f4d9a2cd34582bc3198eb54cd3143620dd8f7dc4"), looks := false }, kinds := [], alts := [], laidByText := true, laidKinds := [.data, .data, .data], laidTests := true, laidLooks := .later }
def FormatFourballsUptoCardSaid : Prop := Claim7.holds Tryz.pinned (.plain (OpenSpec.upto formatFourballsSpec)) formatFourballsUptoCard
end Rows
end Go.Proofs.YtpdbebjlghihmaaGreatDoor
