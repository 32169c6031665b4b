/-
  NARROWER THAN 'FOR EVERY INPUT', by the rows' own cells (each row's printed sentence says how): SoundNames: laid · SoundTells: laid · SoundKinds: laid · SoundLive: laid · SoundBlocks: laid.
  DERIVED. THE GIVEN ROWS OF THIS SEAT. 5 by the template 'for every input the law returns true; each argument reads behind the call as it read before'; 0 by the template 'total and deterministic' (their statements: YtpejpnffcepdlaaGreatDoorTotals.lean).
  GIVEN WITH THE SEED: the statements are not yours to turn. If you find one false, say at which input.
  Laid BY PROGRAM, IN A SANDBOX (cutbox-rows.mjs): the forced cells as the released guide's own fill.sh prints them over the translation 4654233cf57ddb2d… (all of the seat's roots in one cut). By AI agents, Wed Nov 11 2026. No macro, syntax, notation, axiom, sorry.
-/
import Derived.Test.YtpejpnffcepdlaaGreatDoorChecked
import GoSem.Claim
import GoSem.ClaimJoined
import GoSem.ClaimMapViews
import Derived.JoinedTies
import Derived.KernelRfl
namespace Go.Proofs.YtpejpnffcepdlaaGreatDoor
/- THE CELL 'sum', in the pinned program and in every row, IS THE sha256 OF THE DUMP (.gsa) THAT YtpejpnffcepdlaaGreatDoorProg.lean LOADS. Nothing in Lean hashes anything: it is a label: what it is worth is what the hold of that sum in a sandbox is worth. -/
noncomputable def Tryz.pinned : Pinned := { name := "ytpejpnffcepdlaagreatdoor", sum := "4654233cf57ddb2d0643d36cdbd14369de26314d6633f1a001a6b9f75726a046", checked := Tryz.checked }
namespace Rows
def none {H : Type} : Left H := { results := [], args := [] }

/- WHAT THE LISTED PACKAGE-LEVEL VARIABLES READ AS WHEN THE CALL BEGINS. Each datum BY PROGRAM (the guide's laid-datum.mjs) off the statement by which the dump's own 'gosem.cut.vars' lays the variable. In a bare row this is a premise. The card (YtpejpnffcepdlaaGreatDoorCards.lean) ties it to the program's text. -/
def laid_fescue_shape_rows {H : Type} : DataW H := .agg [.agg [.lit (.int .u8 0), .lit (.int .u8 0), .lit (.int .u8 0), .lit (.int .u8 0), .lit (.int .i64 0), .lit (.int .i64 0), .lit (.int .i64 0)], .agg [.lit (.int .u8 2), .lit (.int .u8 0), .lit (.int .u8 0), .lit (.int .u8 1), .lit (.int .i64 0), .lit (.int .i64 0), .lit (.int .i64 0)], .agg [.lit (.int .u8 2), .lit (.int .u8 0), .lit (.int .u8 0), .lit (.int .u8 0), .lit (.int .i64 0), .lit (.int .i64 0), .lit (.int .i64 0)], .agg [.lit (.int .u8 2), .lit (.int .u8 0), .lit (.int .u8 0), .lit (.int .u8 4), .lit (.int .i64 0), .lit (.int .i64 0), .lit (.int .i64 0)], .agg [.lit (.int .u8 2), .lit (.int .u8 3), .lit (.int .u8 3), .lit (.int .u8 0), .lit (.int .i64 0), .lit (.int .i64 0), .lit (.int .i64 0)], .agg [.lit (.int .u8 2), .lit (.int .u8 3), .lit (.int .u8 3), .lit (.int .u8 0), .lit (.int .i64 0), .lit (.int .i64 0), .lit (.int .i64 0)], .agg [.lit (.int .u8 2), .lit (.int .u8 3), .lit (.int .u8 3), .lit (.int .u8 0), .lit (.int .i64 0), .lit (.int .i64 0), .lit (.int .i64 0)], .agg [.lit (.int .u8 2), .lit (.int .u8 3), .lit (.int .u8 3), .lit (.int .u8 0), .lit (.int .i64 0), .lit (.int .i64 0), .lit (.int .i64 0)], .agg [.lit (.int .u8 2), .lit (.int .u8 3), .lit (.int .u8 3), .lit (.int .u8 0), .lit (.int .i64 0), .lit (.int .i64 0), .lit (.int .i64 0)], .agg [.lit (.int .u8 2), .lit (.int .u8 3), .lit (.int .u8 3), .lit (.int .u8 0), .lit (.int .i64 0), .lit (.int .i64 0), .lit (.int .i64 0)], .agg [.lit (.int .u8 2), .lit (.int .u8 3), .lit (.int .u8 3), .lit (.int .u8 0), .lit (.int .i64 0), .lit (.int .i64 0), .lit (.int .i64 0)], .agg [.lit (.int .u8 2), .lit (.int .u8 0), .lit (.int .u8 0), .lit (.int .u8 0), .lit (.int .i64 0), .lit (.int .i64 0), .lit (.int .i64 0)], .agg [.lit (.int .u8 2), .lit (.int .u8 0), .lit (.int .u8 0), .lit (.int .u8 0), .lit (.int .i64 0), .lit (.int .i64 0), .lit (.int .i64 0)], .agg [.lit (.int .u8 0), .lit (.int .u8 3), .lit (.int .u8 0), .lit (.int .u8 0), .lit (.int .i64 0), .lit (.int .i64 0), .lit (.int .i64 0)], .agg [.lit (.int .u8 2), .lit (.int .u8 3), .lit (.int .u8 0), .lit (.int .u8 6), .lit (.int .i64 0), .lit (.int .i64 0), .lit (.int .i64 0)], .agg [.lit (.int .u8 2), .lit (.int .u8 3), .lit (.int .u8 3), .lit (.int .u8 0), .lit (.int .i64 0), .lit (.int .i64 0), .lit (.int .i64 0)], .agg [.lit (.int .u8 2), .lit (.int .u8 3), .lit (.int .u8 0), .lit (.int .u8 0), .lit (.int .i64 0), .lit (.int .i64 0), .lit (.int .i64 0)], .agg [.lit (.int .u8 0), .lit (.int .u8 3), .lit (.int .u8 3), .lit (.int .u8 0), .lit (.int .i64 0), .lit (.int .i64 0), .lit (.int .i64 0)], .agg [.lit (.int .u8 2), .lit (.int .u8 0), .lit (.int .u8 0), .lit (.int .u8 4), .lit (.int .i64 0), .lit (.int .i64 4), .lit (.int .i64 0)], .agg [.lit (.int .u8 2), .lit (.int .u8 3), .lit (.int .u8 0), .lit (.int .u8 0), .lit (.int .i64 0), .lit (.int .i64 4), .lit (.int .i64 0)], .agg [.lit (.int .u8 2), .lit (.int .u8 0), .lit (.int .u8 0), .lit (.int .u8 0), .lit (.int .i64 0), .lit (.int .i64 0), .lit (.int .i64 0)], .agg [.lit (.int .u8 0), .lit (.int .u8 3), .lit (.int .u8 0), .lit (.int .u8 0), .lit (.int .i64 0), .lit (.int .i64 0), .lit (.int .i64 0)], .agg [.lit (.int .u8 2), .lit (.int .u8 0), .lit (.int .u8 0), .lit (.int .u8 0), .lit (.int .i64 1), .lit (.int .i64 16), .lit (.int .i64 1)]]
def laid_fescue_shape_endRows {H : Type} : DataW H := .agg [.agg [.lit (.int .u8 0), .lit (.int .u8 0), .lit (.int .u8 0)], .agg [.lit (.int .u8 0), .lit (.int .u8 5), .lit (.int .u8 0)], .agg [.lit (.int .u8 3), .lit (.int .u8 5), .lit (.int .u8 5)], .agg [.lit (.int .u8 3), .lit (.int .u8 0), .lit (.int .u8 0)]]
def laid_fescue_lex_kinds {H : Type} : DataW H := .agg [.lit (.int .u8 0), .lit (.int .u8 0), .lit (.int .u8 0), .lit (.int .u8 0), .lit (.int .u8 0), .lit (.int .u8 0), .lit (.int .u8 0), .lit (.int .u8 0), .lit (.int .u8 0), .lit (.int .u8 1), .lit (.int .u8 2), .lit (.int .u8 0), .lit (.int .u8 0), .lit (.int .u8 1), .lit (.int .u8 0), .lit (.int .u8 0), .lit (.int .u8 0), .lit (.int .u8 0), .lit (.int .u8 0), .lit (.int .u8 0), .lit (.int .u8 0), .lit (.int .u8 0), .lit (.int .u8 0), .lit (.int .u8 0), .lit (.int .u8 0), .lit (.int .u8 0), .lit (.int .u8 0), .lit (.int .u8 0), .lit (.int .u8 0), .lit (.int .u8 0), .lit (.int .u8 0), .lit (.int .u8 0), .lit (.int .u8 1), .lit (.int .u8 0), .lit (.int .u8 0), .lit (.int .u8 3)]
def laid_fescue_read_ops {H : Type} : DataW H := .agg [.lit (.string []), .lit (.string [105, 110, 116]), .lit (.string [110, 117, 108, 108]), .lit (.string [102, 110]), .lit (.string [97, 100, 100]), .lit (.string [115, 117, 98]), .lit (.string [109, 117, 108]), .lit (.string [100, 105, 118]), .lit (.string [108, 101, 115, 115]), .lit (.string [101, 113]), .lit (.string [115, 97, 109, 101]), .lit (.string [110, 101, 119]), .lit (.string [108, 111, 99, 97, 108]), .lit (.string [102, 114, 101, 101]), .lit (.string [102, 105, 101, 108, 100]), .lit (.string [101, 108, 101, 109]), .lit (.string [108, 111, 97, 100]), .lit (.string [115, 116, 111, 114, 101]), .lit (.string [99, 97, 108, 108]), .lit (.string [105, 99, 97, 108, 108]), .lit (.string [114, 101, 97, 100]), .lit (.string [112, 114, 105, 110, 116]), .lit (.string [112, 104, 105])]

/-- 'fescuelaw12.SoundNames': WHATEVER THE INPUT: true; the input reads as it did. -/
def soundNamesSpec : ChangeSpec := { name := "soundNames", fn := fun _ => fun
  | [] => { results := [.lit (.bool true)], args := [] }
  | _ => none }
def soundNamesRow : OpenClaim := { program := "ytpejpnffcepdlaagreatdoor", sum := "4654233cf57ddb2d0643d36cdbd14369de26314d6633f1a001a6b9f75726a046", func := "fescue/fescuelaw12.SoundNames", spec := "soundNames", inPlace := ["internal/reflectlite.TypeOf"], unfollowed := true, recurses := true, named := ["fescue/lex.kinds", "fescue/read.ops", "fescue/shape.rows", "fescue/shape.endRows"], apart := false, laid := [("fescue/shape.rows", laid_fescue_shape_rows), ("fescue/shape.endRows", laid_fescue_shape_endRows), ("fescue/lex.kinds", laid_fescue_lex_kinds), ("fescue/read.ops", laid_fescue_read_ops)] }
def SoundNamesSaid : Prop := soundNamesRow.holds Tryz.pinned (OpenSpec.ofChange soundNamesSpec)

/-- ITS FALSE NEIGHBOUR: 'it returns false'. Refute it at one input. -/
def soundNamesWrong : ChangeSpec := { name := "soundNames", fn := fun _ => fun
  | [] => { results := [.lit (.bool false)], args := [] }
  | _ => none }
def SoundNamesWrongFalsely : Prop := soundNamesRow.holds Tryz.pinned (OpenSpec.ofChange soundNamesWrong)

/-- 'fescuelaw12.SoundTells': WHATEVER THE INPUT: true; the input reads as it did. -/
def soundTellsSpec : ChangeSpec := { name := "soundTells", fn := fun _ => fun
  | [d1, d2, d3] => { results := [.lit (.bool true)], args := [d1, d2, d3] }
  | _ => none }
def soundTellsRow : OpenClaim := { program := "ytpejpnffcepdlaagreatdoor", sum := "4654233cf57ddb2d0643d36cdbd14369de26314d6633f1a001a6b9f75726a046", func := "fescue/fescuelaw12.SoundTells", spec := "soundTells", inPlace := ["internal/reflectlite.TypeOf"], unfollowed := true, recurses := true, named := ["fescue/shape.endRows", "fescue/shape.rows"], apart := false, laid := [("fescue/shape.rows", laid_fescue_shape_rows), ("fescue/shape.endRows", laid_fescue_shape_endRows)] }
def SoundTellsSaid : Prop := soundTellsRow.holds Tryz.pinned (OpenSpec.ofChange soundTellsSpec)

/-- ITS FALSE NEIGHBOUR: 'it returns false'. Refute it at one input. -/
def soundTellsWrong : ChangeSpec := { name := "soundTells", fn := fun _ => fun
  | [d1, d2, d3] => { results := [.lit (.bool false)], args := [d1, d2, d3] }
  | _ => none }
def SoundTellsWrongFalsely : Prop := soundTellsRow.holds Tryz.pinned (OpenSpec.ofChange soundTellsWrong)

/-- 'fescuelaw12.SoundKinds': WHATEVER THE INPUT: true; the input reads as it did. -/
def soundKindsSpec : ChangeSpec := { name := "soundKinds", fn := fun _ => fun
  | [d1, d2, d3] => { results := [.lit (.bool true)], args := [d1, d2, d3] }
  | _ => none }
def soundKindsRow : OpenClaim := { program := "ytpejpnffcepdlaagreatdoor", sum := "4654233cf57ddb2d0643d36cdbd14369de26314d6633f1a001a6b9f75726a046", func := "fescue/fescuelaw12.SoundKinds", spec := "soundKinds", inPlace := ["internal/reflectlite.TypeOf"], unfollowed := true, recurses := true, named := ["fescue/shape.endRows", "fescue/shape.rows"], apart := false, laid := [("fescue/shape.rows", laid_fescue_shape_rows), ("fescue/shape.endRows", laid_fescue_shape_endRows)] }
def SoundKindsSaid : Prop := soundKindsRow.holds Tryz.pinned (OpenSpec.ofChange soundKindsSpec)

/-- ITS FALSE NEIGHBOUR: 'it returns false'. Refute it at one input. -/
def soundKindsWrong : ChangeSpec := { name := "soundKinds", fn := fun _ => fun
  | [d1, d2, d3] => { results := [.lit (.bool false)], args := [d1, d2, d3] }
  | _ => none }
def SoundKindsWrongFalsely : Prop := soundKindsRow.holds Tryz.pinned (OpenSpec.ofChange soundKindsWrong)

/-- 'fescuelaw12.SoundLive': WHATEVER THE INPUT: true; the input reads as it did. -/
def soundLiveSpec : ChangeSpec := { name := "soundLive", fn := fun _ => fun
  | [d1, d2, d3, d4] => { results := [.lit (.bool true)], args := [d1, d2, d3, d4] }
  | _ => none }
def soundLiveRow : OpenClaim := { program := "ytpejpnffcepdlaagreatdoor", sum := "4654233cf57ddb2d0643d36cdbd14369de26314d6633f1a001a6b9f75726a046", func := "fescue/fescuelaw12.SoundLive", spec := "soundLive", inPlace := ["internal/reflectlite.TypeOf"], unfollowed := true, recurses := true, named := ["fescue/shape.endRows", "fescue/shape.rows"], apart := false, laid := [("fescue/shape.rows", laid_fescue_shape_rows), ("fescue/shape.endRows", laid_fescue_shape_endRows)] }
def SoundLiveSaid : Prop := soundLiveRow.holds Tryz.pinned (OpenSpec.ofChange soundLiveSpec)

/-- ITS FALSE NEIGHBOUR: 'it returns false'. Refute it at one input. -/
def soundLiveWrong : ChangeSpec := { name := "soundLive", fn := fun _ => fun
  | [d1, d2, d3, d4] => { results := [.lit (.bool false)], args := [d1, d2, d3, d4] }
  | _ => none }
def SoundLiveWrongFalsely : Prop := soundLiveRow.holds Tryz.pinned (OpenSpec.ofChange soundLiveWrong)

/-- 'fescuelaw12.SoundBlocks': WHATEVER THE INPUT: true; the input reads as it did. -/
def soundBlocksSpec : ChangeSpec := { name := "soundBlocks", fn := fun _ => fun
  | [d1, d2, d3] => { results := [.lit (.bool true)], args := [d1, d2, d3] }
  | _ => none }
def soundBlocksRow : OpenClaim := { program := "ytpejpnffcepdlaagreatdoor", sum := "4654233cf57ddb2d0643d36cdbd14369de26314d6633f1a001a6b9f75726a046", func := "fescue/fescuelaw12.SoundBlocks", spec := "soundBlocks", inPlace := ["internal/reflectlite.TypeOf"], unfollowed := true, recurses := true, named := ["fescue/shape.endRows", "fescue/shape.rows"], apart := false, laid := [("fescue/shape.rows", laid_fescue_shape_rows), ("fescue/shape.endRows", laid_fescue_shape_endRows)] }
def SoundBlocksSaid : Prop := soundBlocksRow.holds Tryz.pinned (OpenSpec.ofChange soundBlocksSpec)

/-- ITS FALSE NEIGHBOUR: 'it returns false'. Refute it at one input. -/
def soundBlocksWrong : ChangeSpec := { name := "soundBlocks", fn := fun _ => fun
  | [d1, d2, d3] => { results := [.lit (.bool false)], args := [d1, d2, d3] }
  | _ => none }
def SoundBlocksWrongFalsely : Prop := soundBlocksRow.holds Tryz.pinned (OpenSpec.ofChange soundBlocksWrong)

/- THE SECOND FORM. 'bulk': how many values and letters a reading holds, each counted each time it is reached (what is shared counts as often as it is met; a slice's spare places count too). A statement '..UptoSaid' is the law's where the arguments, and the package variables that the reading takes, are together of bulk at most 1048576: NARROWER than '..Said'. Prove '..Said' where nothing that the law and all that it calls make is longer than what came in: it says more and counts as full. Else prove '..UptoSaid'. A law counts once. -/
mutual
def uptoBulk {H : Type} : DataW H → Nat
  | .lit (.string bytes) => bytes.length + 1
  | .lit _ => 1
  | .nil => 1
  | .ptr d => uptoBulk d + 1
  | .slice elems spare => uptoBulkAll elems + uptoBulkAll spare + 1
  | .agg parts => uptoBulkAll parts + 1
  | .iface _ d => uptoBulk d + 1
  | .map entries => uptoBulkEntries entries + 1
  | .held _ => 1
def uptoBulkAll {H : Type} : List (DataW H) → Nat
  | [] => 0
  | d :: r => uptoBulk d + uptoBulkAll r
def uptoBulkEntries {H : Type} : List (Lit × DataW H) → Nat
  | [] => 0
  | x :: r => uptoBulkEntry x + uptoBulkEntries r
def uptoBulkEntry {H : Type} : Lit × DataW H → Nat
  | (.string bytes, d) => bytes.length + uptoBulk d + 1
  | (_, d) => uptoBulk d + 1
 end
def uptoSmall : (H : Type) → List (DataW H) → Bool := fun _ ds => decide (uptoBulkAll ds ≤ 1048576)
def OpenSpec.upto (s : _root_.Go.ChangeSpec) : _root_.Go.OpenSpec := { _root_.Go.OpenSpec.ofChange s with cond := some uptoSmall }

/-- 'fescuelaw12.SoundNames', WHERE WHAT IT READS IS OF BULK AT MOST 1048576: true; the input reads as it did. -/
def soundNamesUptoRow : OpenClaim := { program := "ytpejpnffcepdlaagreatdoor", sum := "4654233cf57ddb2d0643d36cdbd14369de26314d6633f1a001a6b9f75726a046", func := "fescue/fescuelaw12.SoundNames", spec := "soundNames", inPlace := ["internal/reflectlite.TypeOf"], unfollowed := true, recurses := true, named := ["fescue/lex.kinds", "fescue/read.ops", "fescue/shape.rows", "fescue/shape.endRows"], apart := false, laid := [("fescue/shape.rows", laid_fescue_shape_rows), ("fescue/shape.endRows", laid_fescue_shape_endRows), ("fescue/lex.kinds", laid_fescue_lex_kinds), ("fescue/read.ops", laid_fescue_read_ops)], narrowed := true }
def SoundNamesUptoSaid : Prop := soundNamesUptoRow.holds Tryz.pinned (OpenSpec.upto soundNamesSpec)

/-- 'fescuelaw12.SoundTells', WHERE WHAT IT READS IS OF BULK AT MOST 1048576: true; the input reads as it did. -/
def soundTellsUptoRow : OpenClaim := { program := "ytpejpnffcepdlaagreatdoor", sum := "4654233cf57ddb2d0643d36cdbd14369de26314d6633f1a001a6b9f75726a046", func := "fescue/fescuelaw12.SoundTells", spec := "soundTells", inPlace := ["internal/reflectlite.TypeOf"], unfollowed := true, recurses := true, named := ["fescue/shape.endRows", "fescue/shape.rows"], apart := false, laid := [("fescue/shape.rows", laid_fescue_shape_rows), ("fescue/shape.endRows", laid_fescue_shape_endRows)], narrowed := true }
def SoundTellsUptoSaid : Prop := soundTellsUptoRow.holds Tryz.pinned (OpenSpec.upto soundTellsSpec)

/-- 'fescuelaw12.SoundKinds', WHERE WHAT IT READS IS OF BULK AT MOST 1048576: true; the input reads as it did. -/
def soundKindsUptoRow : OpenClaim := { program := "ytpejpnffcepdlaagreatdoor", sum := "4654233cf57ddb2d0643d36cdbd14369de26314d6633f1a001a6b9f75726a046", func := "fescue/fescuelaw12.SoundKinds", spec := "soundKinds", inPlace := ["internal/reflectlite.TypeOf"], unfollowed := true, recurses := true, named := ["fescue/shape.endRows", "fescue/shape.rows"], apart := false, laid := [("fescue/shape.rows", laid_fescue_shape_rows), ("fescue/shape.endRows", laid_fescue_shape_endRows)], narrowed := true }
def SoundKindsUptoSaid : Prop := soundKindsUptoRow.holds Tryz.pinned (OpenSpec.upto soundKindsSpec)

/-- 'fescuelaw12.SoundLive', WHERE WHAT IT READS IS OF BULK AT MOST 1048576: true; the input reads as it did. -/
def soundLiveUptoRow : OpenClaim := { program := "ytpejpnffcepdlaagreatdoor", sum := "4654233cf57ddb2d0643d36cdbd14369de26314d6633f1a001a6b9f75726a046", func := "fescue/fescuelaw12.SoundLive", spec := "soundLive", inPlace := ["internal/reflectlite.TypeOf"], unfollowed := true, recurses := true, named := ["fescue/shape.endRows", "fescue/shape.rows"], apart := false, laid := [("fescue/shape.rows", laid_fescue_shape_rows), ("fescue/shape.endRows", laid_fescue_shape_endRows)], narrowed := true }
def SoundLiveUptoSaid : Prop := soundLiveUptoRow.holds Tryz.pinned (OpenSpec.upto soundLiveSpec)

/-- 'fescuelaw12.SoundBlocks', WHERE WHAT IT READS IS OF BULK AT MOST 1048576: true; the input reads as it did. -/
def soundBlocksUptoRow : OpenClaim := { program := "ytpejpnffcepdlaagreatdoor", sum := "4654233cf57ddb2d0643d36cdbd14369de26314d6633f1a001a6b9f75726a046", func := "fescue/fescuelaw12.SoundBlocks", spec := "soundBlocks", inPlace := ["internal/reflectlite.TypeOf"], unfollowed := true, recurses := true, named := ["fescue/shape.endRows", "fescue/shape.rows"], apart := false, laid := [("fescue/shape.rows", laid_fescue_shape_rows), ("fescue/shape.endRows", laid_fescue_shape_endRows)], narrowed := true }
def SoundBlocksUptoSaid : Prop := soundBlocksUptoRow.holds Tryz.pinned (OpenSpec.upto soundBlocksSpec)

end Rows
end Go.Proofs.YtpejpnffcepdlaaGreatDoor
