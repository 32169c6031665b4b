/-
  DERIVED. GIVEN WITH THE SEED: THE CARDS: each row of YtimnjkdhcnhkoaaGreatDoorRows.lean that lists a variable, with what it lists TIED to the program's text (the seventh form; the later family's looks); each row that meets fmt, with fmt's text TOLD by the authors' own Lean function (tested against real Go, not proved from fmt's source: count such statements apart). THE CARD IS WHAT COUNTS. Prove the row's statement (the work); the ties are given (YtimnjkdhcnhkoaaGreatDoorTie.lean); close each card by the builder's one call (the guide's Derived/Test/ToyasCard.lean, 'card_holds'). Laid BY PROGRAM, IN A SANDBOX (cutbox-door.mjs). By AI agents, Wed Nov 11 2026. No macro, syntax, notation, axiom, sorry.
-/
import Derived.Test.YtimnjkdhcnhkoaaGreatDoorRows
import GoSem.ClaimSeven
namespace Go.Proofs.YtimnjkdhcnhkoaaGreatDoor
namespace Rows

/-- THE TIED CARD OF 'fescuelaw09.FlowOrders'. -/
def flowOrdersCard : Claim7 := { stood := { row := flowOrdersRow, standIns := [], harness := (true, "3a14f60351cfdafb2d2377d18a96374ad9689ccf98a034af6ada4ea105ce63b5"), looks := false }, kinds := [], alts := [], laidByText := true, laidKinds := [.data, .data], laidTests := true, laidLooks := .later }
def FlowOrdersCardSaid : Prop := Claim7.holds Tryz.pinned (.plain (OpenSpec.ofChange flowOrdersSpec)) flowOrdersCard

/-- THE SECOND FORM's CARD OF 'fescuelaw09.FlowOrders'. -/
def flowOrdersUptoCard : Claim7 := { stood := { row := flowOrdersUptoRow, standIns := [], harness := (true, "3a14f60351cfdafb2d2377d18a96374ad9689ccf98a034af6ada4ea105ce63b5"), looks := false }, kinds := [], alts := [], laidByText := true, laidKinds := [.data, .data], laidTests := true, laidLooks := .later }
def FlowOrdersUptoCardSaid : Prop := Claim7.holds Tryz.pinned (.plain (OpenSpec.upto flowOrdersSpec)) flowOrdersUptoCard
end Rows
end Go.Proofs.YtimnjkdhcnhkoaaGreatDoor
