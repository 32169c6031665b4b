/-
  NARROWER THAN 'FOR EVERY INPUT', by the rows' own cells (each row's printed sentence says how): DomNames: laid · DomLaws: laid · DomNexts: laid · DomAhead: laid · DomPlaces: laid.
  DERIVED. THE GIVEN ROWS OF THIS SEAT. 5 by the template 'for every input the law returns true; each argument reads behind the call as it read before'; 0 by the template 'total and deterministic' (their statements: YtkohdofbjoomjaaDoorTotals.lean).
  GIVEN WITH THE SEED: the statements are not yours to turn. If you find one false, say at which input.
  Laid BY PROGRAM, IN A SANDBOX (cutbox-rows.mjs): the forced cells as the released guide's own fill.sh prints them over the translation e4efa15d3bf527eb… (all of the seat's roots in one cut). By AI agents, Wed Nov 11 2026. No macro, syntax, notation, axiom, sorry.
-/
import Derived.Test.YtkohdofbjoomjaaDoorChecked
import GoSem.Claim
import GoSem.ClaimJoined
import GoSem.ClaimMapViews
import Derived.JoinedTies
import Derived.KernelRfl
namespace Go.Proofs.YtkohdofbjoomjaaDoor
/- THE CELL 'sum', in the pinned program and in every row, IS THE sha256 OF THE DUMP (.gsa) THAT YtkohdofbjoomjaaDoorProg.lean LOADS. Nothing in Lean hashes anything: it is a label: what it is worth is what the hold of that sum in a sandbox is worth. -/
noncomputable def Tryd.pinned : Pinned := { name := "ytkohdofbjoomjaadoor", sum := "e4efa15d3bf527ebf913782e02a2773f13d629483439dd4158b71e175893a761", checked := Tryd.checked }
namespace Rows
def none {H : Type} : Left H := { results := [], args := [] }

/- WHAT THE LISTED PACKAGE-LEVEL VARIABLES READ AS WHEN THE CALL BEGINS. Each datum BY PROGRAM (the guide's laid-datum.mjs) off the statement by which the dump's own 'gosem.cut.vars' lays the variable. In a bare row this is a premise. The card (YtkohdofbjoomjaaDoorCards.lean) ties it to the program's text. -/
def laid_fescue_shape_rows {H : Type} : DataW H := .agg [.agg [.lit (.int .u8 0), .lit (.int .u8 0), .lit (.int .u8 0), .lit (.int .u8 0), .lit (.int .i64 0), .lit (.int .i64 0), .lit (.int .i64 0)], .agg [.lit (.int .u8 2), .lit (.int .u8 0), .lit (.int .u8 0), .lit (.int .u8 1), .lit (.int .i64 0), .lit (.int .i64 0), .lit (.int .i64 0)], .agg [.lit (.int .u8 2), .lit (.int .u8 0), .lit (.int .u8 0), .lit (.int .u8 0), .lit (.int .i64 0), .lit (.int .i64 0), .lit (.int .i64 0)], .agg [.lit (.int .u8 2), .lit (.int .u8 0), .lit (.int .u8 0), .lit (.int .u8 4), .lit (.int .i64 0), .lit (.int .i64 0), .lit (.int .i64 0)], .agg [.lit (.int .u8 2), .lit (.int .u8 3), .lit (.int .u8 3), .lit (.int .u8 0), .lit (.int .i64 0), .lit (.int .i64 0), .lit (.int .i64 0)], .agg [.lit (.int .u8 2), .lit (.int .u8 3), .lit (.int .u8 3), .lit (.int .u8 0), .lit (.int .i64 0), .lit (.int .i64 0), .lit (.int .i64 0)], .agg [.lit (.int .u8 2), .lit (.int .u8 3), .lit (.int .u8 3), .lit (.int .u8 0), .lit (.int .i64 0), .lit (.int .i64 0), .lit (.int .i64 0)], .agg [.lit (.int .u8 2), .lit (.int .u8 3), .lit (.int .u8 3), .lit (.int .u8 0), .lit (.int .i64 0), .lit (.int .i64 0), .lit (.int .i64 0)], .agg [.lit (.int .u8 2), .lit (.int .u8 3), .lit (.int .u8 3), .lit (.int .u8 0), .lit (.int .i64 0), .lit (.int .i64 0), .lit (.int .i64 0)], .agg [.lit (.int .u8 2), .lit (.int .u8 3), .lit (.int .u8 3), .lit (.int .u8 0), .lit (.int .i64 0), .lit (.int .i64 0), .lit (.int .i64 0)], .agg [.lit (.int .u8 2), .lit (.int .u8 3), .lit (.int .u8 3), .lit (.int .u8 0), .lit (.int .i64 0), .lit (.int .i64 0), .lit (.int .i64 0)], .agg [.lit (.int .u8 2), .lit (.int .u8 0), .lit (.int .u8 0), .lit (.int .u8 0), .lit (.int .i64 0), .lit (.int .i64 0), .lit (.int .i64 0)], .agg [.lit (.int .u8 2), .lit (.int .u8 0), .lit (.int .u8 0), .lit (.int .u8 0), .lit (.int .i64 0), .lit (.int .i64 0), .lit (.int .i64 0)], .agg [.lit (.int .u8 0), .lit (.int .u8 3), .lit (.int .u8 0), .lit (.int .u8 0), .lit (.int .i64 0), .lit (.int .i64 0), .lit (.int .i64 0)], .agg [.lit (.int .u8 2), .lit (.int .u8 3), .lit (.int .u8 0), .lit (.int .u8 6), .lit (.int .i64 0), .lit (.int .i64 0), .lit (.int .i64 0)], .agg [.lit (.int .u8 2), .lit (.int .u8 3), .lit (.int .u8 3), .lit (.int .u8 0), .lit (.int .i64 0), .lit (.int .i64 0), .lit (.int .i64 0)], .agg [.lit (.int .u8 2), .lit (.int .u8 3), .lit (.int .u8 0), .lit (.int .u8 0), .lit (.int .i64 0), .lit (.int .i64 0), .lit (.int .i64 0)], .agg [.lit (.int .u8 0), .lit (.int .u8 3), .lit (.int .u8 3), .lit (.int .u8 0), .lit (.int .i64 0), .lit (.int .i64 0), .lit (.int .i64 0)], .agg [.lit (.int .u8 2), .lit (.int .u8 0), .lit (.int .u8 0), .lit (.int .u8 4), .lit (.int .i64 0), .lit (.int .i64 4), .lit (.int .i64 0)], .agg [.lit (.int .u8 2), .lit (.int .u8 3), .lit (.int .u8 0), .lit (.int .u8 0), .lit (.int .i64 0), .lit (.int .i64 4), .lit (.int .i64 0)], .agg [.lit (.int .u8 2), .lit (.int .u8 0), .lit (.int .u8 0), .lit (.int .u8 0), .lit (.int .i64 0), .lit (.int .i64 0), .lit (.int .i64 0)], .agg [.lit (.int .u8 0), .lit (.int .u8 3), .lit (.int .u8 0), .lit (.int .u8 0), .lit (.int .i64 0), .lit (.int .i64 0), .lit (.int .i64 0)], .agg [.lit (.int .u8 2), .lit (.int .u8 0), .lit (.int .u8 0), .lit (.int .u8 0), .lit (.int .i64 1), .lit (.int .i64 16), .lit (.int .i64 1)]]
def laid_fescue_shape_endRows {H : Type} : DataW H := .agg [.agg [.lit (.int .u8 0), .lit (.int .u8 0), .lit (.int .u8 0)], .agg [.lit (.int .u8 0), .lit (.int .u8 5), .lit (.int .u8 0)], .agg [.lit (.int .u8 3), .lit (.int .u8 5), .lit (.int .u8 5)], .agg [.lit (.int .u8 3), .lit (.int .u8 0), .lit (.int .u8 0)]]

/-- 'fescuelaw10.DomNames': WHATEVER THE INPUT: true; the input reads as it did. -/
def domNamesSpec : ChangeSpec := { name := "domNames", fn := fun _ => fun
  | [] => { results := [.lit (.bool true)], args := [] }
  | _ => none }
def domNamesRow : OpenClaim := { program := "ytkohdofbjoomjaadoor", sum := "e4efa15d3bf527ebf913782e02a2773f13d629483439dd4158b71e175893a761", func := "fescue/fescuelaw10.DomNames", spec := "domNames", unfollowed := true, recurses := true, named := ["fescue/shape.endRows", "fescue/shape.rows"], apart := false, laid := [("fescue/shape.rows", laid_fescue_shape_rows), ("fescue/shape.endRows", laid_fescue_shape_endRows)] }
def DomNamesSaid : Prop := domNamesRow.holds Tryd.pinned (OpenSpec.ofChange domNamesSpec)

/-- ITS FALSE NEIGHBOUR: 'it returns false'. Refute it at one input. -/
def domNamesWrong : ChangeSpec := { name := "domNames", fn := fun _ => fun
  | [] => { results := [.lit (.bool false)], args := [] }
  | _ => none }
def DomNamesWrongFalsely : Prop := domNamesRow.holds Tryd.pinned (OpenSpec.ofChange domNamesWrong)

/-- 'fescuelaw10.DomLaws': WHATEVER THE INPUT: true; the input reads as it did. -/
def domLawsSpec : ChangeSpec := { name := "domLaws", fn := fun _ => fun
  | [d1, d2, d3] => { results := [.lit (.bool true)], args := [d1, d2, d3] }
  | _ => none }
def domLawsRow : OpenClaim := { program := "ytkohdofbjoomjaadoor", sum := "e4efa15d3bf527ebf913782e02a2773f13d629483439dd4158b71e175893a761", func := "fescue/fescuelaw10.DomLaws", spec := "domLaws", unfollowed := true, recurses := true, named := ["fescue/shape.endRows", "fescue/shape.rows"], apart := false, laid := [("fescue/shape.rows", laid_fescue_shape_rows), ("fescue/shape.endRows", laid_fescue_shape_endRows)] }
def DomLawsSaid : Prop := domLawsRow.holds Tryd.pinned (OpenSpec.ofChange domLawsSpec)

/-- ITS FALSE NEIGHBOUR: 'it returns false'. Refute it at one input. -/
def domLawsWrong : ChangeSpec := { name := "domLaws", fn := fun _ => fun
  | [d1, d2, d3] => { results := [.lit (.bool false)], args := [d1, d2, d3] }
  | _ => none }
def DomLawsWrongFalsely : Prop := domLawsRow.holds Tryd.pinned (OpenSpec.ofChange domLawsWrong)

/-- 'fescuelaw10.DomNexts': WHATEVER THE INPUT: true; the input reads as it did. -/
def domNextsSpec : ChangeSpec := { name := "domNexts", fn := fun _ => fun
  | [d1, d2, d3, d4] => { results := [.lit (.bool true)], args := [d1, d2, d3, d4] }
  | _ => none }
def domNextsRow : OpenClaim := { program := "ytkohdofbjoomjaadoor", sum := "e4efa15d3bf527ebf913782e02a2773f13d629483439dd4158b71e175893a761", func := "fescue/fescuelaw10.DomNexts", spec := "domNexts", unfollowed := true, recurses := true, named := ["fescue/shape.endRows", "fescue/shape.rows"], apart := false, laid := [("fescue/shape.rows", laid_fescue_shape_rows), ("fescue/shape.endRows", laid_fescue_shape_endRows)] }
def DomNextsSaid : Prop := domNextsRow.holds Tryd.pinned (OpenSpec.ofChange domNextsSpec)

/-- ITS FALSE NEIGHBOUR: 'it returns false'. Refute it at one input. -/
def domNextsWrong : ChangeSpec := { name := "domNexts", fn := fun _ => fun
  | [d1, d2, d3, d4] => { results := [.lit (.bool false)], args := [d1, d2, d3, d4] }
  | _ => none }
def DomNextsWrongFalsely : Prop := domNextsRow.holds Tryd.pinned (OpenSpec.ofChange domNextsWrong)

/-- 'fescuelaw10.DomAhead': WHATEVER THE INPUT: true; the input reads as it did. -/
def domAheadSpec : ChangeSpec := { name := "domAhead", fn := fun _ => fun
  | [d1, d2, d3, d4] => { results := [.lit (.bool true)], args := [d1, d2, d3, d4] }
  | _ => none }
def domAheadRow : OpenClaim := { program := "ytkohdofbjoomjaadoor", sum := "e4efa15d3bf527ebf913782e02a2773f13d629483439dd4158b71e175893a761", func := "fescue/fescuelaw10.DomAhead", spec := "domAhead", unfollowed := true, recurses := true, named := ["fescue/shape.endRows", "fescue/shape.rows"], apart := false, laid := [("fescue/shape.rows", laid_fescue_shape_rows), ("fescue/shape.endRows", laid_fescue_shape_endRows)] }
def DomAheadSaid : Prop := domAheadRow.holds Tryd.pinned (OpenSpec.ofChange domAheadSpec)

/-- ITS FALSE NEIGHBOUR: 'it returns false'. Refute it at one input. -/
def domAheadWrong : ChangeSpec := { name := "domAhead", fn := fun _ => fun
  | [d1, d2, d3, d4] => { results := [.lit (.bool false)], args := [d1, d2, d3, d4] }
  | _ => none }
def DomAheadWrongFalsely : Prop := domAheadRow.holds Tryd.pinned (OpenSpec.ofChange domAheadWrong)

/-- 'fescuelaw10.DomPlaces': WHATEVER THE INPUT: true; the input reads as it did. -/
def domPlacesSpec : ChangeSpec := { name := "domPlaces", fn := fun _ => fun
  | [d1, d2, d3] => { results := [.lit (.bool true)], args := [d1, d2, d3] }
  | _ => none }
def domPlacesRow : OpenClaim := { program := "ytkohdofbjoomjaadoor", sum := "e4efa15d3bf527ebf913782e02a2773f13d629483439dd4158b71e175893a761", func := "fescue/fescuelaw10.DomPlaces", spec := "domPlaces", unfollowed := true, recurses := true, named := ["fescue/shape.endRows", "fescue/shape.rows"], apart := false, laid := [("fescue/shape.rows", laid_fescue_shape_rows), ("fescue/shape.endRows", laid_fescue_shape_endRows)] }
def DomPlacesSaid : Prop := domPlacesRow.holds Tryd.pinned (OpenSpec.ofChange domPlacesSpec)

/-- ITS FALSE NEIGHBOUR: 'it returns false'. Refute it at one input. -/
def domPlacesWrong : ChangeSpec := { name := "domPlaces", fn := fun _ => fun
  | [d1, d2, d3] => { results := [.lit (.bool false)], args := [d1, d2, d3] }
  | _ => none }
def DomPlacesWrongFalsely : Prop := domPlacesRow.holds Tryd.pinned (OpenSpec.ofChange domPlacesWrong)

/- THE SECOND FORM. 'bulk': how many values and letters a reading holds, each counted each time it is reached (what is shared counts as often as it is met; a slice's spare places count too). A statement '..UptoSaid' is the law's where the arguments, and the package variables that the reading takes, are together of bulk at most 1048576: NARROWER than '..Said'. Prove '..Said' where nothing that the law and all that it calls make is longer than what came in: it says more and counts as full. Else prove '..UptoSaid'. A law counts once. -/
mutual
def uptoBulk {H : Type} : DataW H → Nat
  | .lit (.string bytes) => bytes.length + 1
  | .lit _ => 1
  | .nil => 1
  | .ptr d => uptoBulk d + 1
  | .slice elems spare => uptoBulkAll elems + uptoBulkAll spare + 1
  | .agg parts => uptoBulkAll parts + 1
  | .iface _ d => uptoBulk d + 1
  | .map entries => uptoBulkEntries entries + 1
  | .held _ => 1
def uptoBulkAll {H : Type} : List (DataW H) → Nat
  | [] => 0
  | d :: r => uptoBulk d + uptoBulkAll r
def uptoBulkEntries {H : Type} : List (Lit × DataW H) → Nat
  | [] => 0
  | x :: r => uptoBulkEntry x + uptoBulkEntries r
def uptoBulkEntry {H : Type} : Lit × DataW H → Nat
  | (.string bytes, d) => bytes.length + uptoBulk d + 1
  | (_, d) => uptoBulk d + 1
 end
def uptoSmall : (H : Type) → List (DataW H) → Bool := fun _ ds => decide (uptoBulkAll ds ≤ 1048576)
def OpenSpec.upto (s : _root_.Go.ChangeSpec) : _root_.Go.OpenSpec := { _root_.Go.OpenSpec.ofChange s with cond := some uptoSmall }

/-- 'fescuelaw10.DomNames', WHERE WHAT IT READS IS OF BULK AT MOST 1048576: true; the input reads as it did. -/
def domNamesUptoRow : OpenClaim := { program := "ytkohdofbjoomjaadoor", sum := "e4efa15d3bf527ebf913782e02a2773f13d629483439dd4158b71e175893a761", func := "fescue/fescuelaw10.DomNames", spec := "domNames", unfollowed := true, recurses := true, named := ["fescue/shape.endRows", "fescue/shape.rows"], apart := false, laid := [("fescue/shape.rows", laid_fescue_shape_rows), ("fescue/shape.endRows", laid_fescue_shape_endRows)], narrowed := true }
def DomNamesUptoSaid : Prop := domNamesUptoRow.holds Tryd.pinned (OpenSpec.upto domNamesSpec)

/-- 'fescuelaw10.DomLaws', WHERE WHAT IT READS IS OF BULK AT MOST 1048576: true; the input reads as it did. -/
def domLawsUptoRow : OpenClaim := { program := "ytkohdofbjoomjaadoor", sum := "e4efa15d3bf527ebf913782e02a2773f13d629483439dd4158b71e175893a761", func := "fescue/fescuelaw10.DomLaws", spec := "domLaws", unfollowed := true, recurses := true, named := ["fescue/shape.endRows", "fescue/shape.rows"], apart := false, laid := [("fescue/shape.rows", laid_fescue_shape_rows), ("fescue/shape.endRows", laid_fescue_shape_endRows)], narrowed := true }
def DomLawsUptoSaid : Prop := domLawsUptoRow.holds Tryd.pinned (OpenSpec.upto domLawsSpec)

/-- 'fescuelaw10.DomNexts', WHERE WHAT IT READS IS OF BULK AT MOST 1048576: true; the input reads as it did. -/
def domNextsUptoRow : OpenClaim := { program := "ytkohdofbjoomjaadoor", sum := "e4efa15d3bf527ebf913782e02a2773f13d629483439dd4158b71e175893a761", func := "fescue/fescuelaw10.DomNexts", spec := "domNexts", unfollowed := true, recurses := true, named := ["fescue/shape.endRows", "fescue/shape.rows"], apart := false, laid := [("fescue/shape.rows", laid_fescue_shape_rows), ("fescue/shape.endRows", laid_fescue_shape_endRows)], narrowed := true }
def DomNextsUptoSaid : Prop := domNextsUptoRow.holds Tryd.pinned (OpenSpec.upto domNextsSpec)

/-- 'fescuelaw10.DomAhead', WHERE WHAT IT READS IS OF BULK AT MOST 1048576: true; the input reads as it did. -/
def domAheadUptoRow : OpenClaim := { program := "ytkohdofbjoomjaadoor", sum := "e4efa15d3bf527ebf913782e02a2773f13d629483439dd4158b71e175893a761", func := "fescue/fescuelaw10.DomAhead", spec := "domAhead", unfollowed := true, recurses := true, named := ["fescue/shape.endRows", "fescue/shape.rows"], apart := false, laid := [("fescue/shape.rows", laid_fescue_shape_rows), ("fescue/shape.endRows", laid_fescue_shape_endRows)], narrowed := true }
def DomAheadUptoSaid : Prop := domAheadUptoRow.holds Tryd.pinned (OpenSpec.upto domAheadSpec)

/-- 'fescuelaw10.DomPlaces', WHERE WHAT IT READS IS OF BULK AT MOST 1048576: true; the input reads as it did. -/
def domPlacesUptoRow : OpenClaim := { program := "ytkohdofbjoomjaadoor", sum := "e4efa15d3bf527ebf913782e02a2773f13d629483439dd4158b71e175893a761", func := "fescue/fescuelaw10.DomPlaces", spec := "domPlaces", unfollowed := true, recurses := true, named := ["fescue/shape.endRows", "fescue/shape.rows"], apart := false, laid := [("fescue/shape.rows", laid_fescue_shape_rows), ("fescue/shape.endRows", laid_fescue_shape_endRows)], narrowed := true }
def DomPlacesUptoSaid : Prop := domPlacesUptoRow.holds Tryd.pinned (OpenSpec.upto domPlacesSpec)

end Rows
end Go.Proofs.YtkohdofbjoomjaaDoor
