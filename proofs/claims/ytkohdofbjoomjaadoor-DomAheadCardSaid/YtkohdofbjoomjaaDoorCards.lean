/-
  DERIVED. GIVEN WITH THE SEED: THE CARDS: each row of YtkohdofbjoomjaaDoorRows.lean that lists a variable, with what it lists TIED to the program's text (the seventh form; the later family's looks); each row that meets fmt, with fmt's text TOLD by the authors' own Lean function (tested against real Go, not proved from fmt's source: count such statements apart). THE CARD IS WHAT COUNTS. Prove the row's statement (the work); the ties are given (YtkohdofbjoomjaaDoorTie.lean); close each card by the builder's one call (the guide's Derived/Test/ToyasCard.lean, 'card_holds'). Laid BY PROGRAM, IN A SANDBOX (cutbox-door.mjs). By AI agents, Wed Nov 11 2026. No macro, syntax, notation, axiom, sorry.
-/
import Derived.Test.YtkohdofbjoomjaaDoorRows
import GoSem.ClaimSeven
namespace Go.Proofs.YtkohdofbjoomjaaDoor
namespace Rows

/-- THE TIED CARD OF 'fescuelaw10.DomNames'. -/
def domNamesCard : Claim7 := { stood := { row := domNamesRow, standIns := [], harness := (true, "0898ebdfe6cc3d3cea53a16418b29618ce5c293258619fabd41054d0745e55a1"), looks := false }, kinds := [], alts := [], laidByText := true, laidKinds := [.data, .data], laidTests := true, laidLooks := .later }
def DomNamesCardSaid : Prop := Claim7.holds Tryd.pinned (.plain (OpenSpec.ofChange domNamesSpec)) domNamesCard

/-- THE TIED CARD OF 'fescuelaw10.DomLaws'. -/
def domLawsCard : Claim7 := { stood := { row := domLawsRow, standIns := [], harness := (true, "0898ebdfe6cc3d3cea53a16418b29618ce5c293258619fabd41054d0745e55a1"), looks := false }, kinds := [], alts := [], laidByText := true, laidKinds := [.data, .data], laidTests := true, laidLooks := .later }
def DomLawsCardSaid : Prop := Claim7.holds Tryd.pinned (.plain (OpenSpec.ofChange domLawsSpec)) domLawsCard

/-- THE TIED CARD OF 'fescuelaw10.DomNexts'. -/
def domNextsCard : Claim7 := { stood := { row := domNextsRow, standIns := [], harness := (true, "0898ebdfe6cc3d3cea53a16418b29618ce5c293258619fabd41054d0745e55a1"), looks := false }, kinds := [], alts := [], laidByText := true, laidKinds := [.data, .data], laidTests := true, laidLooks := .later }
def DomNextsCardSaid : Prop := Claim7.holds Tryd.pinned (.plain (OpenSpec.ofChange domNextsSpec)) domNextsCard

/-- THE TIED CARD OF 'fescuelaw10.DomAhead'. -/
def domAheadCard : Claim7 := { stood := { row := domAheadRow, standIns := [], harness := (true, "0898ebdfe6cc3d3cea53a16418b29618ce5c293258619fabd41054d0745e55a1"), looks := false }, kinds := [], alts := [], laidByText := true, laidKinds := [.data, .data], laidTests := true, laidLooks := .later }
def DomAheadCardSaid : Prop := Claim7.holds Tryd.pinned (.plain (OpenSpec.ofChange domAheadSpec)) domAheadCard

/-- THE TIED CARD OF 'fescuelaw10.DomPlaces'. -/
def domPlacesCard : Claim7 := { stood := { row := domPlacesRow, standIns := [], harness := (true, "0898ebdfe6cc3d3cea53a16418b29618ce5c293258619fabd41054d0745e55a1"), looks := false }, kinds := [], alts := [], laidByText := true, laidKinds := [.data, .data], laidTests := true, laidLooks := .later }
def DomPlacesCardSaid : Prop := Claim7.holds Tryd.pinned (.plain (OpenSpec.ofChange domPlacesSpec)) domPlacesCard

/-- THE SECOND FORM's CARD OF 'fescuelaw10.DomNames'. -/
def domNamesUptoCard : Claim7 := { stood := { row := domNamesUptoRow, standIns := [], harness := (true, "0898ebdfe6cc3d3cea53a16418b29618ce5c293258619fabd41054d0745e55a1"), looks := false }, kinds := [], alts := [], laidByText := true, laidKinds := [.data, .data], laidTests := true, laidLooks := .later }
def DomNamesUptoCardSaid : Prop := Claim7.holds Tryd.pinned (.plain (OpenSpec.upto domNamesSpec)) domNamesUptoCard

/-- THE SECOND FORM's CARD OF 'fescuelaw10.DomLaws'. -/
def domLawsUptoCard : Claim7 := { stood := { row := domLawsUptoRow, standIns := [], harness := (true, "0898ebdfe6cc3d3cea53a16418b29618ce5c293258619fabd41054d0745e55a1"), looks := false }, kinds := [], alts := [], laidByText := true, laidKinds := [.data, .data], laidTests := true, laidLooks := .later }
def DomLawsUptoCardSaid : Prop := Claim7.holds Tryd.pinned (.plain (OpenSpec.upto domLawsSpec)) domLawsUptoCard

/-- THE SECOND FORM's CARD OF 'fescuelaw10.DomNexts'. -/
def domNextsUptoCard : Claim7 := { stood := { row := domNextsUptoRow, standIns := [], harness := (true, "0898ebdfe6cc3d3cea53a16418b29618ce5c293258619fabd41054d0745e55a1"), looks := false }, kinds := [], alts := [], laidByText := true, laidKinds := [.data, .data], laidTests := true, laidLooks := .later }
def DomNextsUptoCardSaid : Prop := Claim7.holds Tryd.pinned (.plain (OpenSpec.upto domNextsSpec)) domNextsUptoCard

/-- THE SECOND FORM's CARD OF 'fescuelaw10.DomAhead'. -/
def domAheadUptoCard : Claim7 := { stood := { row := domAheadUptoRow, standIns := [], harness := (true, "0898ebdfe6cc3d3cea53a16418b29618ce5c293258619fabd41054d0745e55a1"), looks := false }, kinds := [], alts := [], laidByText := true, laidKinds := [.data, .data], laidTests := true, laidLooks := .later }
def DomAheadUptoCardSaid : Prop := Claim7.holds Tryd.pinned (.plain (OpenSpec.upto domAheadSpec)) domAheadUptoCard

/-- THE SECOND FORM's CARD OF 'fescuelaw10.DomPlaces'. -/
def domPlacesUptoCard : Claim7 := { stood := { row := domPlacesUptoRow, standIns := [], harness := (true, "0898ebdfe6cc3d3cea53a16418b29618ce5c293258619fabd41054d0745e55a1"), looks := false }, kinds := [], alts := [], laidByText := true, laidKinds := [.data, .data], laidTests := true, laidLooks := .later }
def DomPlacesUptoCardSaid : Prop := Claim7.holds Tryd.pinned (.plain (OpenSpec.upto domPlacesSpec)) domPlacesUptoCard
end Rows
end Go.Proofs.YtkohdofbjoomjaaDoor
