/-
  DERIVED. GIVEN WITH THE SEED: THE CARDS: each row of YtbebficgcemkoaaGreatDoorRows.lean that lists a variable, with what it lists TIED to the program's text (the seventh form; the later family's looks); each row that meets fmt, with fmt's text TOLD by the authors' own Lean function (tested against real Go, not proved from fmt's source: count such statements apart). THE CARD IS WHAT COUNTS. Prove the row's statement (the work); the ties are given (YtbebficgcemkoaaGreatDoorTie.lean); close each card by the builder's one call (the guide's Derived/Test/ToyasCard.lean, 'card_holds'). Laid BY PROGRAM, IN A SANDBOX (cutbox-door.mjs). By AI agents, Wed Nov 11 2026. No macro, syntax, notation, axiom, sorry.
-/
import Derived.Test.YtbebficgcemkoaaGreatDoorRows
import GoSem.ClaimSeven
namespace Go.Proofs.YtbebficgcemkoaaGreatDoor
namespace Rows

/-- THE TIED CARD OF 'fescuelaw08.WriteNames'. -/
def writeNamesCard : Claim7 := { stood := { row := writeNamesRow, standIns := [], harness := (true, "e038e1ed0d1bed47d3c1d327d90a34a765ea3b8bfb9c21d8af7dee632f67819d"), looks := true }, kinds := [], alts := [], laidByText := true, laidKinds := [.data, .data, .data, .data, .data, .data, .data, .data], laidTests := true, laidLooks := .later }
def WriteNamesCardSaid : Prop := Claim7.holds Tryz.pinned (.plain (OpenSpec.ofChange writeNamesSpec)) writeNamesCard

/-- THE TIED CARD OF 'fescuelaw08.WriteTells'. -/
def writeTellsCard : Claim7 := { stood := { row := writeTellsRow, standIns := [], harness := (true, "e038e1ed0d1bed47d3c1d327d90a34a765ea3b8bfb9c21d8af7dee632f67819d"), looks := true }, kinds := [], alts := [], laidByText := true, laidKinds := [.data, .data, .data, .data, .data, .data, .data], laidTests := true, laidLooks := .later }
def WriteTellsCardSaid : Prop := Claim7.holds Tryz.pinned (.plain (OpenSpec.ofChange writeTellsSpec)) writeTellsCard

/-- THE TIED CARD OF 'fescuelaw08.WriteCanons'. -/
def writeCanonsCard : Claim7 := { stood := { row := writeCanonsRow, standIns := [], harness := (true, "e038e1ed0d1bed47d3c1d327d90a34a765ea3b8bfb9c21d8af7dee632f67819d"), looks := true }, kinds := [], alts := [], laidByText := true, laidKinds := [.data, .data, .data, .data, .data, .data, .data, .data], laidTests := true, laidLooks := .later }
def WriteCanonsCardSaid : Prop := Claim7.holds Tryz.pinned (.plain (OpenSpec.ofChange writeCanonsSpec)) writeCanonsCard

/-- THE TIED CARD OF 'fescuelaw08.WriteBack'. -/
def writeBackCard : Claim7 := { stood := { row := writeBackRow, standIns := [], harness := (true, "e038e1ed0d1bed47d3c1d327d90a34a765ea3b8bfb9c21d8af7dee632f67819d"), looks := true }, kinds := [], alts := [], laidByText := true, laidKinds := [.data, .data, .data, .data, .data, .data, .data, .data], laidTests := true, laidLooks := .later }
def WriteBackCardSaid : Prop := Claim7.holds Tryz.pinned (.plain (OpenSpec.ofChange writeBackSpec)) writeBackCard

/-- THE TIED CARD OF 'fescuelaw08.WriteCanon'. -/
def writeCanonCard : Claim7 := { stood := { row := writeCanonRow, standIns := [], harness := (true, "e038e1ed0d1bed47d3c1d327d90a34a765ea3b8bfb9c21d8af7dee632f67819d"), looks := true }, kinds := [], alts := [], laidByText := true, laidKinds := [.data, .data, .data, .data, .data, .data, .data, .data], laidTests := true, laidLooks := .later }
def WriteCanonCardSaid : Prop := Claim7.holds Tryz.pinned (.plain (OpenSpec.ofChange writeCanonSpec)) writeCanonCard

/-- THE TIED CARD OF 'fescuelaw08.WriteApart'. -/
def writeApartCard : Claim7 := { stood := { row := writeApartRow, standIns := [], harness := (true, "e038e1ed0d1bed47d3c1d327d90a34a765ea3b8bfb9c21d8af7dee632f67819d"), looks := true }, kinds := [], alts := [], laidByText := true, laidKinds := [.data, .data, .data, .data, .data, .data, .data, .data], laidTests := true, laidLooks := .later }
def WriteApartCardSaid : Prop := Claim7.holds Tryz.pinned (.plain (OpenSpec.ofChange writeApartSpec)) writeApartCard

/-- THE SECOND FORM's CARD OF 'fescuelaw08.WriteNames'. -/
def writeNamesUptoCard : Claim7 := { stood := { row := writeNamesUptoRow, standIns := [], harness := (true, "e038e1ed0d1bed47d3c1d327d90a34a765ea3b8bfb9c21d8af7dee632f67819d"), looks := true }, kinds := [], alts := [], laidByText := true, laidKinds := [.data, .data, .data, .data, .data, .data, .data, .data], laidTests := true, laidLooks := .later }
def WriteNamesUptoCardSaid : Prop := Claim7.holds Tryz.pinned (.plain (OpenSpec.upto writeNamesSpec)) writeNamesUptoCard

/-- THE SECOND FORM's CARD OF 'fescuelaw08.WriteTells'. -/
def writeTellsUptoCard : Claim7 := { stood := { row := writeTellsUptoRow, standIns := [], harness := (true, "e038e1ed0d1bed47d3c1d327d90a34a765ea3b8bfb9c21d8af7dee632f67819d"), looks := true }, kinds := [], alts := [], laidByText := true, laidKinds := [.data, .data, .data, .data, .data, .data, .data], laidTests := true, laidLooks := .later }
def WriteTellsUptoCardSaid : Prop := Claim7.holds Tryz.pinned (.plain (OpenSpec.upto writeTellsSpec)) writeTellsUptoCard

/-- THE SECOND FORM's CARD OF 'fescuelaw08.WriteCanons'. -/
def writeCanonsUptoCard : Claim7 := { stood := { row := writeCanonsUptoRow, standIns := [], harness := (true, "e038e1ed0d1bed47d3c1d327d90a34a765ea3b8bfb9c21d8af7dee632f67819d"), looks := true }, kinds := [], alts := [], laidByText := true, laidKinds := [.data, .data, .data, .data, .data, .data, .data, .data], laidTests := true, laidLooks := .later }
def WriteCanonsUptoCardSaid : Prop := Claim7.holds Tryz.pinned (.plain (OpenSpec.upto writeCanonsSpec)) writeCanonsUptoCard

/-- THE SECOND FORM's CARD OF 'fescuelaw08.WriteBack'. -/
def writeBackUptoCard : Claim7 := { stood := { row := writeBackUptoRow, standIns := [], harness := (true, "e038e1ed0d1bed47d3c1d327d90a34a765ea3b8bfb9c21d8af7dee632f67819d"), looks := true }, kinds := [], alts := [], laidByText := true, laidKinds := [.data, .data, .data, .data, .data, .data, .data, .data], laidTests := true, laidLooks := .later }
def WriteBackUptoCardSaid : Prop := Claim7.holds Tryz.pinned (.plain (OpenSpec.upto writeBackSpec)) writeBackUptoCard

/-- THE SECOND FORM's CARD OF 'fescuelaw08.WriteCanon'. -/
def writeCanonUptoCard : Claim7 := { stood := { row := writeCanonUptoRow, standIns := [], harness := (true, "e038e1ed0d1bed47d3c1d327d90a34a765ea3b8bfb9c21d8af7dee632f67819d"), looks := true }, kinds := [], alts := [], laidByText := true, laidKinds := [.data, .data, .data, .data, .data, .data, .data, .data], laidTests := true, laidLooks := .later }
def WriteCanonUptoCardSaid : Prop := Claim7.holds Tryz.pinned (.plain (OpenSpec.upto writeCanonSpec)) writeCanonUptoCard

/-- THE SECOND FORM's CARD OF 'fescuelaw08.WriteApart'. -/
def writeApartUptoCard : Claim7 := { stood := { row := writeApartUptoRow, standIns := [], harness := (true, "e038e1ed0d1bed47d3c1d327d90a34a765ea3b8bfb9c21d8af7dee632f67819d"), looks := true }, kinds := [], alts := [], laidByText := true, laidKinds := [.data, .data, .data, .data, .data, .data, .data, .data], laidTests := true, laidLooks := .later }
def WriteApartUptoCardSaid : Prop := Claim7.holds Tryz.pinned (.plain (OpenSpec.upto writeApartSpec)) writeApartUptoCard
end Rows
end Go.Proofs.YtbebficgcemkoaaGreatDoor
