/-
  DERIVED. GIVEN WITH THE SEED: THE CARDS: each row of YtimnjkdhcnhkoaaDoorRows.lean that lists a variable, with what it lists TIED to the program's text (the seventh form; the later family's looks); each row that meets fmt, with fmt's text TOLD by the authors' own Lean function (tested against real Go, not proved from fmt's source: count such statements apart). THE CARD IS WHAT COUNTS. Prove the row's statement (the work); the ties are given (YtimnjkdhcnhkoaaDoorTie.lean); close each card by the builder's one call (the guide's Derived/Test/ToyasCard.lean, 'card_holds'). Laid BY PROGRAM, IN A SANDBOX (cutbox-door.mjs). By AI agents, Wed Nov 11 2026. No macro, syntax, notation, axiom, sorry.
-/
import Derived.Test.YtimnjkdhcnhkoaaDoorRows
import GoSem.ClaimSeven
namespace Go.Proofs.YtimnjkdhcnhkoaaDoor
namespace Rows

/-- THE TIED CARD OF 'fescuelaw09.FlowNames'. -/
def flowNamesCard : Claim7 := { stood := { row := flowNamesRow, standIns := [], harness := (true, "96d42ee11776779da2c7740467496fe442e946742d7ecd7c7f0d0457a4b6525c"), looks := false }, kinds := [], alts := [], laidByText := true, laidKinds := [.data, .data], laidTests := true, laidLooks := .later }
def FlowNamesCardSaid : Prop := Claim7.holds Tryd.pinned (.plain (OpenSpec.ofChange flowNamesSpec)) flowNamesCard

/-- THE TIED CARD OF 'fescuelaw09.FlowTells'. -/
def flowTellsCard : Claim7 := { stood := { row := flowTellsRow, standIns := [], harness := (true, "96d42ee11776779da2c7740467496fe442e946742d7ecd7c7f0d0457a4b6525c"), looks := false }, kinds := [], alts := [], laidByText := true, laidKinds := [.data, .data], laidTests := true, laidLooks := .later }
def FlowTellsCardSaid : Prop := Claim7.holds Tryd.pinned (.plain (OpenSpec.ofChange flowTellsSpec)) flowTellsCard

/-- THE TIED CARD OF 'fescuelaw09.FlowBoth'. -/
def flowBothCard : Claim7 := { stood := { row := flowBothRow, standIns := [], harness := (true, "96d42ee11776779da2c7740467496fe442e946742d7ecd7c7f0d0457a4b6525c"), looks := false }, kinds := [], alts := [], laidByText := true, laidKinds := [.data, .data], laidTests := true, laidLooks := .later }
def FlowBothCardSaid : Prop := Claim7.holds Tryd.pinned (.plain (OpenSpec.ofChange flowBothSpec)) flowBothCard

/-- THE TIED CARD OF 'fescuelaw09.FlowOrder'. -/
def flowOrderCard : Claim7 := { stood := { row := flowOrderRow, standIns := [], harness := (true, "96d42ee11776779da2c7740467496fe442e946742d7ecd7c7f0d0457a4b6525c"), looks := false }, kinds := [], alts := [], laidByText := true, laidKinds := [.data, .data], laidTests := true, laidLooks := .later }
def FlowOrderCardSaid : Prop := Claim7.holds Tryd.pinned (.plain (OpenSpec.ofChange flowOrderSpec)) flowOrderCard

/-- THE TIED CARD OF 'fescuelaw09.FlowRounds'. -/
def flowRoundsCard : Claim7 := { stood := { row := flowRoundsRow, standIns := [], harness := (true, "96d42ee11776779da2c7740467496fe442e946742d7ecd7c7f0d0457a4b6525c"), looks := false }, kinds := [], alts := [], laidByText := true, laidKinds := [.data, .data], laidTests := true, laidLooks := .later }
def FlowRoundsCardSaid : Prop := Claim7.holds Tryd.pinned (.plain (OpenSpec.ofChange flowRoundsSpec)) flowRoundsCard

/-- THE SECOND FORM's CARD OF 'fescuelaw09.FlowNames'. -/
def flowNamesUptoCard : Claim7 := { stood := { row := flowNamesUptoRow, standIns := [], harness := (true, "96d42ee11776779da2c7740467496fe442e946742d7ecd7c7f0d0457a4b6525c"), looks := false }, kinds := [], alts := [], laidByText := true, laidKinds := [.data, .data], laidTests := true, laidLooks := .later }
def FlowNamesUptoCardSaid : Prop := Claim7.holds Tryd.pinned (.plain (OpenSpec.upto flowNamesSpec)) flowNamesUptoCard

/-- THE SECOND FORM's CARD OF 'fescuelaw09.FlowTells'. -/
def flowTellsUptoCard : Claim7 := { stood := { row := flowTellsUptoRow, standIns := [], harness := (true, "96d42ee11776779da2c7740467496fe442e946742d7ecd7c7f0d0457a4b6525c"), looks := false }, kinds := [], alts := [], laidByText := true, laidKinds := [.data, .data], laidTests := true, laidLooks := .later }
def FlowTellsUptoCardSaid : Prop := Claim7.holds Tryd.pinned (.plain (OpenSpec.upto flowTellsSpec)) flowTellsUptoCard

/-- THE SECOND FORM's CARD OF 'fescuelaw09.FlowBoth'. -/
def flowBothUptoCard : Claim7 := { stood := { row := flowBothUptoRow, standIns := [], harness := (true, "96d42ee11776779da2c7740467496fe442e946742d7ecd7c7f0d0457a4b6525c"), looks := false }, kinds := [], alts := [], laidByText := true, laidKinds := [.data, .data], laidTests := true, laidLooks := .later }
def FlowBothUptoCardSaid : Prop := Claim7.holds Tryd.pinned (.plain (OpenSpec.upto flowBothSpec)) flowBothUptoCard

/-- THE SECOND FORM's CARD OF 'fescuelaw09.FlowOrder'. -/
def flowOrderUptoCard : Claim7 := { stood := { row := flowOrderUptoRow, standIns := [], harness := (true, "96d42ee11776779da2c7740467496fe442e946742d7ecd7c7f0d0457a4b6525c"), looks := false }, kinds := [], alts := [], laidByText := true, laidKinds := [.data, .data], laidTests := true, laidLooks := .later }
def FlowOrderUptoCardSaid : Prop := Claim7.holds Tryd.pinned (.plain (OpenSpec.upto flowOrderSpec)) flowOrderUptoCard

/-- THE SECOND FORM's CARD OF 'fescuelaw09.FlowRounds'. -/
def flowRoundsUptoCard : Claim7 := { stood := { row := flowRoundsUptoRow, standIns := [], harness := (true, "96d42ee11776779da2c7740467496fe442e946742d7ecd7c7f0d0457a4b6525c"), looks := false }, kinds := [], alts := [], laidByText := true, laidKinds := [.data, .data], laidTests := true, laidLooks := .later }
def FlowRoundsUptoCardSaid : Prop := Claim7.holds Tryd.pinned (.plain (OpenSpec.upto flowRoundsSpec)) flowRoundsUptoCard
end Rows
end Go.Proofs.YtimnjkdhcnhkoaaDoor
