/-
  DERIVED. GIVEN WITH THE SEED: THE CARDS: each row of YtkcocgdgmlmflaaGreatDoorRows.lean that lists a variable, with what it lists TIED to the program's text (the seventh form; the later family's looks); each row that meets fmt, with fmt's text TOLD by the authors' own Lean function (tested against real Go, not proved from fmt's source: count such statements apart). THE CARD IS WHAT COUNTS. Prove the row's statement (the work); the ties are given (YtkcocgdgmlmflaaGreatDoorTie.lean); close each card by the builder's one call (the guide's Derived/Test/ToyasCard.lean, 'card_holds'). Laid BY PROGRAM, IN A SANDBOX (cutbox-door.mjs). By AI agents, Wed Nov 11 2026. No macro, syntax, notation, axiom, sorry.
-/
import Derived.Test.YtkcocgdgmlmflaaGreatDoorRows
import GoSem.ClaimSeven
namespace Go.Proofs.YtkcocgdgmlmflaaGreatDoor
namespace Rows

/-- THE TIED CARD OF 'fescuelaw11.LiveTells'. -/
def liveTellsCard : Claim7 := { stood := { row := liveTellsRow, standIns := [], harness := (true, "70a048a5cc0cbe6509ed95e191272d68fc708dd882f9f5e4dc3a09cec10a511c"), looks := false }, kinds := [], alts := [], laidByText := true, laidKinds := [.data, .data], laidTests := true, laidLooks := .later }
def LiveTellsCardSaid : Prop := Claim7.holds Tryz.pinned (.plain (OpenSpec.ofChange liveTellsSpec)) liveTellsCard

/-- THE SECOND FORM's CARD OF 'fescuelaw11.LiveTells'. -/
def liveTellsUptoCard : Claim7 := { stood := { row := liveTellsUptoRow, standIns := [], harness := (true, "70a048a5cc0cbe6509ed95e191272d68fc708dd882f9f5e4dc3a09cec10a511c"), looks := false }, kinds := [], alts := [], laidByText := true, laidKinds := [.data, .data], laidTests := true, laidLooks := .later }
def LiveTellsUptoCardSaid : Prop := Claim7.holds Tryz.pinned (.plain (OpenSpec.upto liveTellsSpec)) liveTellsUptoCard
end Rows
end Go.Proofs.YtkcocgdgmlmflaaGreatDoor
