/-
  DERIVED. GIVEN WITH THE SEED: THE CARDS: each row of YtkcocgdgmlmflaaDoorRows.lean that lists a variable, with what it lists TIED to the program's text (the seventh form; the later family's looks); each row that meets fmt, with fmt's text TOLD by the authors' own Lean function (tested against real Go, not proved from fmt's source: count such statements apart). THE CARD IS WHAT COUNTS. Prove the row's statement (the work); the ties are given (YtkcocgdgmlmflaaDoorTie.lean); close each card by the builder's one call (the guide's Derived/Test/ToyasCard.lean, 'card_holds'). Laid BY PROGRAM, IN A SANDBOX (cutbox-door.mjs). By AI agents, Wed Nov 11 2026. No macro, syntax, notation, axiom, sorry.
-/
import Derived.Test.YtkcocgdgmlmflaaDoorRows
import GoSem.ClaimSeven
namespace Go.Proofs.YtkcocgdgmlmflaaDoor
namespace Rows

/-- THE TIED CARD OF 'fescuelaw11.LiveNames'. -/
def liveNamesCard : Claim7 := { stood := { row := liveNamesRow, standIns := [], harness := (true, "f9387ca69c43afb575a0d4ccbe19cd4f907f45bb69a3620d1368948e6785333d"), looks := false }, kinds := [], alts := [], laidByText := true, laidKinds := [.data, .data], laidTests := true, laidLooks := .later }
def LiveNamesCardSaid : Prop := Claim7.holds Tryd.pinned (.plain (OpenSpec.ofChange liveNamesSpec)) liveNamesCard

/-- THE TIED CARD OF 'fescuelaw11.LiveStep'. -/
def liveStepCard : Claim7 := { stood := { row := liveStepRow, standIns := [], harness := (true, "f9387ca69c43afb575a0d4ccbe19cd4f907f45bb69a3620d1368948e6785333d"), looks := false }, kinds := [], alts := [], laidByText := true, laidKinds := [.data, .data], laidTests := true, laidLooks := .later }
def LiveStepCardSaid : Prop := Claim7.holds Tryd.pinned (.plain (OpenSpec.ofChange liveStepSpec)) liveStepCard

/-- THE TIED CARD OF 'fescuelaw11.LiveEnd'. -/
def liveEndCard : Claim7 := { stood := { row := liveEndRow, standIns := [], harness := (true, "f9387ca69c43afb575a0d4ccbe19cd4f907f45bb69a3620d1368948e6785333d"), looks := false }, kinds := [], alts := [], laidByText := true, laidKinds := [.data, .data], laidTests := true, laidLooks := .later }
def LiveEndCardSaid : Prop := Claim7.holds Tryd.pinned (.plain (OpenSpec.ofChange liveEndSpec)) liveEndCard

/-- THE TIED CARD OF 'fescuelaw11.LiveWays'. -/
def liveWaysCard : Claim7 := { stood := { row := liveWaysRow, standIns := [], harness := (true, "f9387ca69c43afb575a0d4ccbe19cd4f907f45bb69a3620d1368948e6785333d"), looks := false }, kinds := [], alts := [], laidByText := true, laidKinds := [.data, .data], laidTests := true, laidLooks := .later }
def LiveWaysCardSaid : Prop := Claim7.holds Tryd.pinned (.plain (OpenSpec.ofChange liveWaysSpec)) liveWaysCard

/-- THE SECOND FORM's CARD OF 'fescuelaw11.LiveNames'. -/
def liveNamesUptoCard : Claim7 := { stood := { row := liveNamesUptoRow, standIns := [], harness := (true, "f9387ca69c43afb575a0d4ccbe19cd4f907f45bb69a3620d1368948e6785333d"), looks := false }, kinds := [], alts := [], laidByText := true, laidKinds := [.data, .data], laidTests := true, laidLooks := .later }
def LiveNamesUptoCardSaid : Prop := Claim7.holds Tryd.pinned (.plain (OpenSpec.upto liveNamesSpec)) liveNamesUptoCard

/-- THE SECOND FORM's CARD OF 'fescuelaw11.LiveStep'. -/
def liveStepUptoCard : Claim7 := { stood := { row := liveStepUptoRow, standIns := [], harness := (true, "f9387ca69c43afb575a0d4ccbe19cd4f907f45bb69a3620d1368948e6785333d"), looks := false }, kinds := [], alts := [], laidByText := true, laidKinds := [.data, .data], laidTests := true, laidLooks := .later }
def LiveStepUptoCardSaid : Prop := Claim7.holds Tryd.pinned (.plain (OpenSpec.upto liveStepSpec)) liveStepUptoCard

/-- THE SECOND FORM's CARD OF 'fescuelaw11.LiveEnd'. -/
def liveEndUptoCard : Claim7 := { stood := { row := liveEndUptoRow, standIns := [], harness := (true, "f9387ca69c43afb575a0d4ccbe19cd4f907f45bb69a3620d1368948e6785333d"), looks := false }, kinds := [], alts := [], laidByText := true, laidKinds := [.data, .data], laidTests := true, laidLooks := .later }
def LiveEndUptoCardSaid : Prop := Claim7.holds Tryd.pinned (.plain (OpenSpec.upto liveEndSpec)) liveEndUptoCard

/-- THE SECOND FORM's CARD OF 'fescuelaw11.LiveWays'. -/
def liveWaysUptoCard : Claim7 := { stood := { row := liveWaysUptoRow, standIns := [], harness := (true, "f9387ca69c43afb575a0d4ccbe19cd4f907f45bb69a3620d1368948e6785333d"), looks := false }, kinds := [], alts := [], laidByText := true, laidKinds := [.data, .data], laidTests := true, laidLooks := .later }
def LiveWaysUptoCardSaid : Prop := Claim7.holds Tryd.pinned (.plain (OpenSpec.upto liveWaysSpec)) liveWaysUptoCard
end Rows
end Go.Proofs.YtkcocgdgmlmflaaDoor
