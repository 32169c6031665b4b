/-
  NARROWER THAN 'FOR EVERY INPUT', by the rows' own cells (each row's printed sentence says how): LiveNames: laid · LiveStep: laid · LiveEnd: laid · LiveWays: laid.
  DERIVED. THE GIVEN ROWS OF THIS SEAT. 4 by the template 'for every input the law returns true; each argument reads behind the call as it read before'; 0 by the template 'total and deterministic' (their statements: YtkcocgdgmlmflaaDoorTotals.lean).
  GIVEN WITH THE SEED: the statements are not yours to turn. If you find one false, say at which input.
  Laid BY PROGRAM, IN A SANDBOX (cutbox-rows.mjs): the forced cells as the released guide's own fill.sh prints them over the translation cd293dddbc5205f5… (all of the seat's roots in one cut). By AI agents, Wed Nov 11 2026. No macro, syntax, notation, axiom, sorry.
-/
import Derived.Test.YtkcocgdgmlmflaaDoorChecked
import GoSem.Claim
import GoSem.ClaimJoined
import GoSem.ClaimMapViews
import Derived.JoinedTies
import Derived.KernelRfl
namespace Go.Proofs.YtkcocgdgmlmflaaDoor
/- THE CELL 'sum', in the pinned program and in every row, IS THE sha256 OF THE DUMP (.gsa) THAT YtkcocgdgmlmflaaDoorProg.lean LOADS. Nothing in Lean hashes anything: it is a label: what it is worth is what the hold of that sum in a sandbox is worth. -/
noncomputable def Tryd.pinned : Pinned := { name := "ytkcocgdgmlmflaadoor", sum := "cd293dddbc5205f5668ac20a841fbcb70e04ba6033e083b3d0f1dc83f9f647d0", checked := Tryd.checked }
namespace Rows
def none {H : Type} : Left H := { results := [], args := [] }

/- WHAT THE LISTED PACKAGE-LEVEL VARIABLES READ AS WHEN THE CALL BEGINS. Each datum BY PROGRAM (the guide's laid-datum.mjs) off the statement by which the dump's own 'gosem.cut.vars' lays the variable. In a bare row this is a premise. The card (YtkcocgdgmlmflaaDoorCards.lean) ties it to the program's text. -/
def laid_fescue_shape_rows {H : Type} : DataW H := .agg [.agg [.lit (.int .u8 0), .lit (.int .u8 0), .lit (.int .u8 0), .lit (.int .u8 0), .lit (.int .i64 0), .lit (.int .i64 0), .lit (.int .i64 0)], .agg [.lit (.int .u8 2), .lit (.int .u8 0), .lit (.int .u8 0), .lit (.int .u8 1), .lit (.int .i64 0), .lit (.int .i64 0), .lit (.int .i64 0)], .agg [.lit (.int .u8 2), .lit (.int .u8 0), .lit (.int .u8 0), .lit (.int .u8 0), .lit (.int .i64 0), .lit (.int .i64 0), .lit (.int .i64 0)], .agg [.lit (.int .u8 2), .lit (.int .u8 0), .lit (.int .u8 0), .lit (.int .u8 4), .lit (.int .i64 0), .lit (.int .i64 0), .lit (.int .i64 0)], .agg [.lit (.int .u8 2), .lit (.int .u8 3), .lit (.int .u8 3), .lit (.int .u8 0), .lit (.int .i64 0), .lit (.int .i64 0), .lit (.int .i64 0)], .agg [.lit (.int .u8 2), .lit (.int .u8 3), .lit (.int .u8 3), .lit (.int .u8 0), .lit (.int .i64 0), .lit (.int .i64 0), .lit (.int .i64 0)], .agg [.lit (.int .u8 2), .lit (.int .u8 3), .lit (.int .u8 3), .lit (.int .u8 0), .lit (.int .i64 0), .lit (.int .i64 0), .lit (.int .i64 0)], .agg [.lit (.int .u8 2), .lit (.int .u8 3), .lit (.int .u8 3), .lit (.int .u8 0), .lit (.int .i64 0), .lit (.int .i64 0), .lit (.int .i64 0)], .agg [.lit (.int .u8 2), .lit (.int .u8 3), .lit (.int .u8 3), .lit (.int .u8 0), .lit (.int .i64 0), .lit (.int .i64 0), .lit (.int .i64 0)], .agg [.lit (.int .u8 2), .lit (.int .u8 3), .lit (.int .u8 3), .lit (.int .u8 0), .lit (.int .i64 0), .lit (.int .i64 0), .lit (.int .i64 0)], .agg [.lit (.int .u8 2), .lit (.int .u8 3), .lit (.int .u8 3), .lit (.int .u8 0), .lit (.int .i64 0), .lit (.int .i64 0), .lit (.int .i64 0)], .agg [.lit (.int .u8 2), .lit (.int .u8 0), .lit (.int .u8 0), .lit (.int .u8 0), .lit (.int .i64 0), .lit (.int .i64 0), .lit (.int .i64 0)], .agg [.lit (.int .u8 2), .lit (.int .u8 0), .lit (.int .u8 0), .lit (.int .u8 0), .lit (.int .i64 0), .lit (.int .i64 0), .lit (.int .i64 0)], .agg [.lit (.int .u8 0), .lit (.int .u8 3), .lit (.int .u8 0), .lit (.int .u8 0), .lit (.int .i64 0), .lit (.int .i64 0), .lit (.int .i64 0)], .agg [.lit (.int .u8 2), .lit (.int .u8 3), .lit (.int .u8 0), .lit (.int .u8 6), .lit (.int .i64 0), .lit (.int .i64 0), .lit (.int .i64 0)], .agg [.lit (.int .u8 2), .lit (.int .u8 3), .lit (.int .u8 3), .lit (.int .u8 0), .lit (.int .i64 0), .lit (.int .i64 0), .lit (.int .i64 0)], .agg [.lit (.int .u8 2), .lit (.int .u8 3), .lit (.int .u8 0), .lit (.int .u8 0), .lit (.int .i64 0), .lit (.int .i64 0), .lit (.int .i64 0)], .agg [.lit (.int .u8 0), .lit (.int .u8 3), .lit (.int .u8 3), .lit (.int .u8 0), .lit (.int .i64 0), .lit (.int .i64 0), .lit (.int .i64 0)], .agg [.lit (.int .u8 2), .lit (.int .u8 0), .lit (.int .u8 0), .lit (.int .u8 4), .lit (.int .i64 0), .lit (.int .i64 4), .lit (.int .i64 0)], .agg [.lit (.int .u8 2), .lit (.int .u8 3), .lit (.int .u8 0), .lit (.int .u8 0), .lit (.int .i64 0), .lit (.int .i64 4), .lit (.int .i64 0)], .agg [.lit (.int .u8 2), .lit (.int .u8 0), .lit (.int .u8 0), .lit (.int .u8 0), .lit (.int .i64 0), .lit (.int .i64 0), .lit (.int .i64 0)], .agg [.lit (.int .u8 0), .lit (.int .u8 3), .lit (.int .u8 0), .lit (.int .u8 0), .lit (.int .i64 0), .lit (.int .i64 0), .lit (.int .i64 0)], .agg [.lit (.int .u8 2), .lit (.int .u8 0), .lit (.int .u8 0), .lit (.int .u8 0), .lit (.int .i64 1), .lit (.int .i64 16), .lit (.int .i64 1)]]
def laid_fescue_shape_endRows {H : Type} : DataW H := .agg [.agg [.lit (.int .u8 0), .lit (.int .u8 0), .lit (.int .u8 0)], .agg [.lit (.int .u8 0), .lit (.int .u8 5), .lit (.int .u8 0)], .agg [.lit (.int .u8 3), .lit (.int .u8 5), .lit (.int .u8 5)], .agg [.lit (.int .u8 3), .lit (.int .u8 0), .lit (.int .u8 0)]]

/-- 'fescuelaw11.LiveNames': WHATEVER THE INPUT: true; the input reads as it did. -/
def liveNamesSpec : ChangeSpec := { name := "liveNames", fn := fun _ => fun
  | [] => { results := [.lit (.bool true)], args := [] }
  | _ => none }
def liveNamesRow : OpenClaim := { program := "ytkcocgdgmlmflaadoor", sum := "cd293dddbc5205f5668ac20a841fbcb70e04ba6033e083b3d0f1dc83f9f647d0", func := "fescue/fescuelaw11.LiveNames", spec := "liveNames", unfollowed := true, recurses := true, named := ["fescue/shape.endRows", "fescue/shape.rows"], apart := false, laid := [("fescue/shape.rows", laid_fescue_shape_rows), ("fescue/shape.endRows", laid_fescue_shape_endRows)] }
def LiveNamesSaid : Prop := liveNamesRow.holds Tryd.pinned (OpenSpec.ofChange liveNamesSpec)

/-- ITS FALSE NEIGHBOUR: 'it returns false'. Refute it at one input. -/
def liveNamesWrong : ChangeSpec := { name := "liveNames", fn := fun _ => fun
  | [] => { results := [.lit (.bool false)], args := [] }
  | _ => none }
def LiveNamesWrongFalsely : Prop := liveNamesRow.holds Tryd.pinned (OpenSpec.ofChange liveNamesWrong)

/-- 'fescuelaw11.LiveStep': WHATEVER THE INPUT: true; the input reads as it did. -/
def liveStepSpec : ChangeSpec := { name := "liveStep", fn := fun _ => fun
  | [d1, d2, d3, d4] => { results := [.lit (.bool true)], args := [d1, d2, d3, d4] }
  | _ => none }
def liveStepRow : OpenClaim := { program := "ytkcocgdgmlmflaadoor", sum := "cd293dddbc5205f5668ac20a841fbcb70e04ba6033e083b3d0f1dc83f9f647d0", func := "fescue/fescuelaw11.LiveStep", spec := "liveStep", unfollowed := true, recurses := true, named := ["fescue/shape.endRows", "fescue/shape.rows"], apart := false, laid := [("fescue/shape.rows", laid_fescue_shape_rows), ("fescue/shape.endRows", laid_fescue_shape_endRows)] }
def LiveStepSaid : Prop := liveStepRow.holds Tryd.pinned (OpenSpec.ofChange liveStepSpec)

/-- ITS FALSE NEIGHBOUR: 'it returns false'. Refute it at one input. -/
def liveStepWrong : ChangeSpec := { name := "liveStep", fn := fun _ => fun
  | [d1, d2, d3, d4] => { results := [.lit (.bool false)], args := [d1, d2, d3, d4] }
  | _ => none }
def LiveStepWrongFalsely : Prop := liveStepRow.holds Tryd.pinned (OpenSpec.ofChange liveStepWrong)

/-- 'fescuelaw11.LiveEnd': WHATEVER THE INPUT: true; the input reads as it did. -/
def liveEndSpec : ChangeSpec := { name := "liveEnd", fn := fun _ => fun
  | [d1, d2, d3] => { results := [.lit (.bool true)], args := [d1, d2, d3] }
  | _ => none }
def liveEndRow : OpenClaim := { program := "ytkcocgdgmlmflaadoor", sum := "cd293dddbc5205f5668ac20a841fbcb70e04ba6033e083b3d0f1dc83f9f647d0", func := "fescue/fescuelaw11.LiveEnd", spec := "liveEnd", unfollowed := true, recurses := true, named := ["fescue/shape.endRows", "fescue/shape.rows"], apart := false, laid := [("fescue/shape.rows", laid_fescue_shape_rows), ("fescue/shape.endRows", laid_fescue_shape_endRows)] }
def LiveEndSaid : Prop := liveEndRow.holds Tryd.pinned (OpenSpec.ofChange liveEndSpec)

/-- ITS FALSE NEIGHBOUR: 'it returns false'. Refute it at one input. -/
def liveEndWrong : ChangeSpec := { name := "liveEnd", fn := fun _ => fun
  | [d1, d2, d3] => { results := [.lit (.bool false)], args := [d1, d2, d3] }
  | _ => none }
def LiveEndWrongFalsely : Prop := liveEndRow.holds Tryd.pinned (OpenSpec.ofChange liveEndWrong)

/-- 'fescuelaw11.LiveWays': WHATEVER THE INPUT: true; the input reads as it did. -/
def liveWaysSpec : ChangeSpec := { name := "liveWays", fn := fun _ => fun
  | [d1, d2, d3, d4] => { results := [.lit (.bool true)], args := [d1, d2, d3, d4] }
  | _ => none }
def liveWaysRow : OpenClaim := { program := "ytkcocgdgmlmflaadoor", sum := "cd293dddbc5205f5668ac20a841fbcb70e04ba6033e083b3d0f1dc83f9f647d0", func := "fescue/fescuelaw11.LiveWays", spec := "liveWays", unfollowed := true, recurses := true, named := ["fescue/shape.endRows", "fescue/shape.rows"], apart := false, laid := [("fescue/shape.rows", laid_fescue_shape_rows), ("fescue/shape.endRows", laid_fescue_shape_endRows)] }
def LiveWaysSaid : Prop := liveWaysRow.holds Tryd.pinned (OpenSpec.ofChange liveWaysSpec)

/-- ITS FALSE NEIGHBOUR: 'it returns false'. Refute it at one input. -/
def liveWaysWrong : ChangeSpec := { name := "liveWays", fn := fun _ => fun
  | [d1, d2, d3, d4] => { results := [.lit (.bool false)], args := [d1, d2, d3, d4] }
  | _ => none }
def LiveWaysWrongFalsely : Prop := liveWaysRow.holds Tryd.pinned (OpenSpec.ofChange liveWaysWrong)

/- THE SECOND FORM. 'bulk': how many values and letters a reading holds, each counted each time it is reached (what is shared counts as often as it is met; a slice's spare places count too). A statement '..UptoSaid' is the law's where the arguments, and the package variables that the reading takes, are together of bulk at most 1048576: NARROWER than '..Said'. Prove '..Said' where nothing that the law and all that it calls make is longer than what came in: it says more and counts as full. Else prove '..UptoSaid'. A law counts once. -/
mutual
def uptoBulk {H : Type} : DataW H → Nat
  | .lit (.string bytes) => bytes.length + 1
  | .lit _ => 1
  | .nil => 1
  | .ptr d => uptoBulk d + 1
  | .slice elems spare => uptoBulkAll elems + uptoBulkAll spare + 1
  | .agg parts => uptoBulkAll parts + 1
  | .iface _ d => uptoBulk d + 1
  | .map entries => uptoBulkEntries entries + 1
  | .held _ => 1
def uptoBulkAll {H : Type} : List (DataW H) → Nat
  | [] => 0
  | d :: r => uptoBulk d + uptoBulkAll r
def uptoBulkEntries {H : Type} : List (Lit × DataW H) → Nat
  | [] => 0
  | x :: r => uptoBulkEntry x + uptoBulkEntries r
def uptoBulkEntry {H : Type} : Lit × DataW H → Nat
  | (.string bytes, d) => bytes.length + uptoBulk d + 1
  | (_, d) => uptoBulk d + 1
 end
def uptoSmall : (H : Type) → List (DataW H) → Bool := fun _ ds => decide (uptoBulkAll ds ≤ 1048576)
def OpenSpec.upto (s : _root_.Go.ChangeSpec) : _root_.Go.OpenSpec := { _root_.Go.OpenSpec.ofChange s with cond := some uptoSmall }

/-- 'fescuelaw11.LiveNames', WHERE WHAT IT READS IS OF BULK AT MOST 1048576: true; the input reads as it did. -/
def liveNamesUptoRow : OpenClaim := { program := "ytkcocgdgmlmflaadoor", sum := "cd293dddbc5205f5668ac20a841fbcb70e04ba6033e083b3d0f1dc83f9f647d0", func := "fescue/fescuelaw11.LiveNames", spec := "liveNames", unfollowed := true, recurses := true, named := ["fescue/shape.endRows", "fescue/shape.rows"], apart := false, laid := [("fescue/shape.rows", laid_fescue_shape_rows), ("fescue/shape.endRows", laid_fescue_shape_endRows)], narrowed := true }
def LiveNamesUptoSaid : Prop := liveNamesUptoRow.holds Tryd.pinned (OpenSpec.upto liveNamesSpec)

/-- 'fescuelaw11.LiveStep', WHERE WHAT IT READS IS OF BULK AT MOST 1048576: true; the input reads as it did. -/
def liveStepUptoRow : OpenClaim := { program := "ytkcocgdgmlmflaadoor", sum := "cd293dddbc5205f5668ac20a841fbcb70e04ba6033e083b3d0f1dc83f9f647d0", func := "fescue/fescuelaw11.LiveStep", spec := "liveStep", unfollowed := true, recurses := true, named := ["fescue/shape.endRows", "fescue/shape.rows"], apart := false, laid := [("fescue/shape.rows", laid_fescue_shape_rows), ("fescue/shape.endRows", laid_fescue_shape_endRows)], narrowed := true }
def LiveStepUptoSaid : Prop := liveStepUptoRow.holds Tryd.pinned (OpenSpec.upto liveStepSpec)

/-- 'fescuelaw11.LiveEnd', WHERE WHAT IT READS IS OF BULK AT MOST 1048576: true; the input reads as it did. -/
def liveEndUptoRow : OpenClaim := { program := "ytkcocgdgmlmflaadoor", sum := "cd293dddbc5205f5668ac20a841fbcb70e04ba6033e083b3d0f1dc83f9f647d0", func := "fescue/fescuelaw11.LiveEnd", spec := "liveEnd", unfollowed := true, recurses := true, named := ["fescue/shape.endRows", "fescue/shape.rows"], apart := false, laid := [("fescue/shape.rows", laid_fescue_shape_rows), ("fescue/shape.endRows", laid_fescue_shape_endRows)], narrowed := true }
def LiveEndUptoSaid : Prop := liveEndUptoRow.holds Tryd.pinned (OpenSpec.upto liveEndSpec)

/-- 'fescuelaw11.LiveWays', WHERE WHAT IT READS IS OF BULK AT MOST 1048576: true; the input reads as it did. -/
def liveWaysUptoRow : OpenClaim := { program := "ytkcocgdgmlmflaadoor", sum := "cd293dddbc5205f5668ac20a841fbcb70e04ba6033e083b3d0f1dc83f9f647d0", func := "fescue/fescuelaw11.LiveWays", spec := "liveWays", unfollowed := true, recurses := true, named := ["fescue/shape.endRows", "fescue/shape.rows"], apart := false, laid := [("fescue/shape.rows", laid_fescue_shape_rows), ("fescue/shape.endRows", laid_fescue_shape_endRows)], narrowed := true }
def LiveWaysUptoSaid : Prop := liveWaysUptoRow.holds Tryd.pinned (OpenSpec.upto liveWaysSpec)

end Rows
end Go.Proofs.YtkcocgdgmlmflaaDoor
