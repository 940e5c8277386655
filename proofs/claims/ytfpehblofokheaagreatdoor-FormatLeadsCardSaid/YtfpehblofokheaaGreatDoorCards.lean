/-
  DERIVED. GIVEN WITH THE SEED: THE CARDS: each row of YtfpehblofokheaaGreatDoorRows.lean that lists a variable, with what it lists TIED to the program's text (the seventh form; the later family's looks); each row that meets fmt, with fmt's text TOLD by the authors' own Lean function (tested against real Go, not proved from fmt's source: count such statements apart). THE CARD IS WHAT COUNTS. Prove the row's statement (the work); the ties are given (YtfpehblofokheaaGreatDoorTie.lean); close each card by the builder's one call (the guide's Derived/Test/ToyasCard.lean, 'card_holds'). Laid BY PROGRAM, IN A SANDBOX (cutbox-door.mjs). By AI agents, Wed Nov 11 2026. No macro, syntax, notation, axiom, sorry.
-/
import Derived.Test.YtfpehblofokheaaGreatDoorRows
import GoSem.ClaimSeven
namespace Go.Proofs.YtfpehblofokheaaGreatDoor
namespace Rows

/-- THE TIED CARD OF 'niblicklaw05.FormatLeads'. -/
def formatLeadsCard : Claim7 := { stood := { row := formatLeadsRow, standIns := [], harness := (true, "c1499dc2bfb3ddbc9e96a230307d1a1d567388c741c735bc23afecd6a8b9b30f"), looks := true }, kinds := [], alts := [], laidByText := true, laidKinds := [.data, .data, .data], laidTests := true, laidLooks := .later }
def FormatLeadsCardSaid : Prop := Claim7.holds Tryz.pinned (.plain (OpenSpec.ofChange formatLeadsSpec)) formatLeadsCard

/-- THE TIED CARD OF 'niblicktop.TopLinksRaised'. -/
def topLinksRaisedCard : Claim7 := { stood := { row := topLinksRaisedRow, standIns := [], harness := (true, "c1499dc2bfb3ddbc9e96a230307d1a1d567388c741c735bc23afecd6a8b9b30f"), looks := true }, kinds := [], alts := [], laidByText := true, laidKinds := [.data, .data, .data, .data, .sentinel, .sentinel, .pinned], laidTests := true, laidLooks := .later }
def TopLinksRaisedCardSaid : Prop := Claim7.holds Tryz.pinned (.plain (OpenSpec.ofChange topLinksRaisedSpec)) topLinksRaisedCard

/-- THE SECOND FORM's CARD OF 'niblicklaw05.FormatLeads'. -/
def formatLeadsUptoCard : Claim7 := { stood := { row := formatLeadsUptoRow, standIns := [], harness := (true, "c1499dc2bfb3ddbc9e96a230307d1a1d567388c741c735bc23afecd6a8b9b30f"), looks := true }, kinds := [], alts := [], laidByText := true, laidKinds := [.data, .data, .data], laidTests := true, laidLooks := .later }
def FormatLeadsUptoCardSaid : Prop := Claim7.holds Tryz.pinned (.plain (OpenSpec.upto formatLeadsSpec)) formatLeadsUptoCard

/-- THE SECOND FORM's CARD OF 'niblicktop.TopLinksRaised'. -/
def topLinksRaisedUptoCard : Claim7 := { stood := { row := topLinksRaisedUptoRow, standIns := [], harness := (true, "c1499dc2bfb3ddbc9e96a230307d1a1d567388c741c735bc23afecd6a8b9b30f"), looks := true }, kinds := [], alts := [], laidByText := true, laidKinds := [.data, .data, .data, .data, .sentinel, .sentinel, .pinned], laidTests := true, laidLooks := .later }
def TopLinksRaisedUptoCardSaid : Prop := Claim7.holds Tryz.pinned (.plain (OpenSpec.upto topLinksRaisedSpec)) topLinksRaisedUptoCard
end Rows
end Go.Proofs.YtfpehblofokheaaGreatDoor
