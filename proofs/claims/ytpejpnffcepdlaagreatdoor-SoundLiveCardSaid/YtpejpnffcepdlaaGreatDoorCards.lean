/-
  DERIVED. GIVEN WITH THE SEED: THE CARDS: each row of YtpejpnffcepdlaaGreatDoorRows.lean that lists a variable, with what it lists TIED to the program's text (the seventh form; the later family's looks); each row that meets fmt, with fmt's text TOLD by the authors' own Lean function (tested against real Go, not proved from fmt's source: count such statements apart). THE CARD IS WHAT COUNTS. Prove the row's statement (the work); the ties are given (YtpejpnffcepdlaaGreatDoorTie.lean); close each card by the builder's one call (the guide's Derived/Test/ToyasCard.lean, 'card_holds'). Laid BY PROGRAM, IN A SANDBOX (cutbox-door.mjs). By AI agents, Wed Nov 11 2026. No macro, syntax, notation, axiom, sorry.
-/
import Derived.Test.YtpejpnffcepdlaaGreatDoorRows
import GoSem.ClaimSeven
namespace Go.Proofs.YtpejpnffcepdlaaGreatDoor
namespace Rows

/-- THE TIED CARD OF 'fescuelaw12.SoundNames'. -/
def soundNamesCard : Claim7 := { stood := { row := soundNamesRow, standIns := [], harness := (true, "a0c34b51aad4b0eeea57119c5ec95c4b6bb4c5bb85599c50d615d03369ca130e"), looks := true }, kinds := [], alts := [], laidByText := true, laidKinds := [.data, .data, .data, .data], laidTests := true, laidLooks := .later }
def SoundNamesCardSaid : Prop := Claim7.holds Tryz.pinned (.plain (OpenSpec.ofChange soundNamesSpec)) soundNamesCard

/-- THE TIED CARD OF 'fescuelaw12.SoundTells'. -/
def soundTellsCard : Claim7 := { stood := { row := soundTellsRow, standIns := [], harness := (true, "a0c34b51aad4b0eeea57119c5ec95c4b6bb4c5bb85599c50d615d03369ca130e"), looks := true }, kinds := [], alts := [], laidByText := true, laidKinds := [.data, .data], laidTests := true, laidLooks := .later }
def SoundTellsCardSaid : Prop := Claim7.holds Tryz.pinned (.plain (OpenSpec.ofChange soundTellsSpec)) soundTellsCard

/-- THE TIED CARD OF 'fescuelaw12.SoundKinds'. -/
def soundKindsCard : Claim7 := { stood := { row := soundKindsRow, standIns := [], harness := (true, "a0c34b51aad4b0eeea57119c5ec95c4b6bb4c5bb85599c50d615d03369ca130e"), looks := true }, kinds := [], alts := [], laidByText := true, laidKinds := [.data, .data], laidTests := true, laidLooks := .later }
def SoundKindsCardSaid : Prop := Claim7.holds Tryz.pinned (.plain (OpenSpec.ofChange soundKindsSpec)) soundKindsCard

/-- THE TIED CARD OF 'fescuelaw12.SoundLive'. -/
def soundLiveCard : Claim7 := { stood := { row := soundLiveRow, standIns := [], harness := (true, "a0c34b51aad4b0eeea57119c5ec95c4b6bb4c5bb85599c50d615d03369ca130e"), looks := true }, kinds := [], alts := [], laidByText := true, laidKinds := [.data, .data], laidTests := true, laidLooks := .later }
def SoundLiveCardSaid : Prop := Claim7.holds Tryz.pinned (.plain (OpenSpec.ofChange soundLiveSpec)) soundLiveCard

/-- THE TIED CARD OF 'fescuelaw12.SoundBlocks'. -/
def soundBlocksCard : Claim7 := { stood := { row := soundBlocksRow, standIns := [], harness := (true, "a0c34b51aad4b0eeea57119c5ec95c4b6bb4c5bb85599c50d615d03369ca130e"), looks := true }, kinds := [], alts := [], laidByText := true, laidKinds := [.data, .data], laidTests := true, laidLooks := .later }
def SoundBlocksCardSaid : Prop := Claim7.holds Tryz.pinned (.plain (OpenSpec.ofChange soundBlocksSpec)) soundBlocksCard

/-- THE SECOND FORM's CARD OF 'fescuelaw12.SoundNames'. -/
def soundNamesUptoCard : Claim7 := { stood := { row := soundNamesUptoRow, standIns := [], harness := (true, "a0c34b51aad4b0eeea57119c5ec95c4b6bb4c5bb85599c50d615d03369ca130e"), looks := true }, kinds := [], alts := [], laidByText := true, laidKinds := [.data, .data, .data, .data], laidTests := true, laidLooks := .later }
def SoundNamesUptoCardSaid : Prop := Claim7.holds Tryz.pinned (.plain (OpenSpec.upto soundNamesSpec)) soundNamesUptoCard

/-- THE SECOND FORM's CARD OF 'fescuelaw12.SoundTells'. -/
def soundTellsUptoCard : Claim7 := { stood := { row := soundTellsUptoRow, standIns := [], harness := (true, "a0c34b51aad4b0eeea57119c5ec95c4b6bb4c5bb85599c50d615d03369ca130e"), looks := true }, kinds := [], alts := [], laidByText := true, laidKinds := [.data, .data], laidTests := true, laidLooks := .later }
def SoundTellsUptoCardSaid : Prop := Claim7.holds Tryz.pinned (.plain (OpenSpec.upto soundTellsSpec)) soundTellsUptoCard

/-- THE SECOND FORM's CARD OF 'fescuelaw12.SoundKinds'. -/
def soundKindsUptoCard : Claim7 := { stood := { row := soundKindsUptoRow, standIns := [], harness := (true, "a0c34b51aad4b0eeea57119c5ec95c4b6bb4c5bb85599c50d615d03369ca130e"), looks := true }, kinds := [], alts := [], laidByText := true, laidKinds := [.data, .data], laidTests := true, laidLooks := .later }
def SoundKindsUptoCardSaid : Prop := Claim7.holds Tryz.pinned (.plain (OpenSpec.upto soundKindsSpec)) soundKindsUptoCard

/-- THE SECOND FORM's CARD OF 'fescuelaw12.SoundLive'. -/
def soundLiveUptoCard : Claim7 := { stood := { row := soundLiveUptoRow, standIns := [], harness := (true, "a0c34b51aad4b0eeea57119c5ec95c4b6bb4c5bb85599c50d615d03369ca130e"), looks := true }, kinds := [], alts := [], laidByText := true, laidKinds := [.data, .data], laidTests := true, laidLooks := .later }
def SoundLiveUptoCardSaid : Prop := Claim7.holds Tryz.pinned (.plain (OpenSpec.upto soundLiveSpec)) soundLiveUptoCard

/-- THE SECOND FORM's CARD OF 'fescuelaw12.SoundBlocks'. -/
def soundBlocksUptoCard : Claim7 := { stood := { row := soundBlocksUptoRow, standIns := [], harness := (true, "a0c34b51aad4b0eeea57119c5ec95c4b6bb4c5bb85599c50d615d03369ca130e"), looks := true }, kinds := [], alts := [], laidByText := true, laidKinds := [.data, .data], laidTests := true, laidLooks := .later }
def SoundBlocksUptoCardSaid : Prop := Claim7.holds Tryz.pinned (.plain (OpenSpec.upto soundBlocksSpec)) soundBlocksUptoCard
end Rows
end Go.Proofs.YtpejpnffcepdlaaGreatDoor
