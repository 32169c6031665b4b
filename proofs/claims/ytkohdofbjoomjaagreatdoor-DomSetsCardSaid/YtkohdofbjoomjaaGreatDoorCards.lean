/-
  DERIVED. GIVEN WITH THE SEED: THE CARDS: each row of YtkohdofbjoomjaaGreatDoorRows.lean that lists a variable, with what it lists TIED to the program's text (the seventh form; the later family's looks); each row that meets fmt, with fmt's text TOLD by the authors' own Lean function (tested against real Go, not proved from fmt's source: count such statements apart). THE CARD IS WHAT COUNTS. Prove the row's statement (the work); the ties are given (YtkohdofbjoomjaaGreatDoorTie.lean); close each card by the builder's one call (the guide's Derived/Test/ToyasCard.lean, 'card_holds'). Laid BY PROGRAM, IN A SANDBOX (cutbox-door.mjs). By AI agents, Wed Nov 11 2026. No macro, syntax, notation, axiom, sorry.
-/
import Derived.Test.YtkohdofbjoomjaaGreatDoorRows
import GoSem.ClaimSeven
namespace Go.Proofs.YtkohdofbjoomjaaGreatDoor
namespace Rows

/-- THE TIED CARD OF 'fescuelaw10.DomTells'. -/
def domTellsCard : Claim7 := { stood := { row := domTellsRow, standIns := [], harness := (true, "4cfb18e456963632a670d31f75d48dd45aa5d3a368eb38ef1e3ad2b43ceeb217"), looks := false }, kinds := [], alts := [], laidByText := true, laidKinds := [.data, .data], laidTests := true, laidLooks := .later }
def DomTellsCardSaid : Prop := Claim7.holds Tryz.pinned (.plain (OpenSpec.ofChange domTellsSpec)) domTellsCard

/-- THE TIED CARD OF 'fescuelaw10.DomSets'. -/
def domSetsCard : Claim7 := { stood := { row := domSetsRow, standIns := [], harness := (true, "4cfb18e456963632a670d31f75d48dd45aa5d3a368eb38ef1e3ad2b43ceeb217"), looks := false }, kinds := [], alts := [], laidByText := true, laidKinds := [.data, .data], laidTests := true, laidLooks := .later }
def DomSetsCardSaid : Prop := Claim7.holds Tryz.pinned (.plain (OpenSpec.ofChange domSetsSpec)) domSetsCard

/-- THE SECOND FORM's CARD OF 'fescuelaw10.DomTells'. -/
def domTellsUptoCard : Claim7 := { stood := { row := domTellsUptoRow, standIns := [], harness := (true, "4cfb18e456963632a670d31f75d48dd45aa5d3a368eb38ef1e3ad2b43ceeb217"), looks := false }, kinds := [], alts := [], laidByText := true, laidKinds := [.data, .data], laidTests := true, laidLooks := .later }
def DomTellsUptoCardSaid : Prop := Claim7.holds Tryz.pinned (.plain (OpenSpec.upto domTellsSpec)) domTellsUptoCard

/-- THE SECOND FORM's CARD OF 'fescuelaw10.DomSets'. -/
def domSetsUptoCard : Claim7 := { stood := { row := domSetsUptoRow, standIns := [], harness := (true, "4cfb18e456963632a670d31f75d48dd45aa5d3a368eb38ef1e3ad2b43ceeb217"), looks := false }, kinds := [], alts := [], laidByText := true, laidKinds := [.data, .data], laidTests := true, laidLooks := .later }
def DomSetsUptoCardSaid : Prop := Claim7.holds Tryz.pinned (.plain (OpenSpec.upto domSetsSpec)) domSetsUptoCard
end Rows
end Go.Proofs.YtkohdofbjoomjaaGreatDoor
