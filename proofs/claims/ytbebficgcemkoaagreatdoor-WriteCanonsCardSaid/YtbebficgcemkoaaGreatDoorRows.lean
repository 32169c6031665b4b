/-
  NARROWER THAN 'FOR EVERY INPUT', by the rows' own cells (each row's printed sentence says how): WriteNames: laid · WriteTells: laid · WriteCanons: laid · WriteBack: laid · WriteCanon: laid · WriteApart: laid.
  DERIVED. THE GIVEN ROWS OF THIS SEAT. 6 by the template 'for every input the law returns true; each argument reads behind the call as it read before'; 0 by the template 'total and deterministic' (their statements: YtbebficgcemkoaaGreatDoorTotals.lean).
  GIVEN WITH THE SEED: the statements are not yours to turn. If you find one false, say at which input.
  Laid BY PROGRAM, IN A SANDBOX (cutbox-rows.mjs): the forced cells as the released guide's own fill.sh prints them over the translation 602a35de1910a446… (all of the seat's roots in one cut). By AI agents, Wed Nov 11 2026. No macro, syntax, notation, axiom, sorry.
-/
import Derived.Test.YtbebficgcemkoaaGreatDoorChecked
import GoSem.Claim
import GoSem.ClaimJoined
import GoSem.ClaimMapViews
import Derived.JoinedTies
import Derived.KernelRfl
namespace Go.Proofs.YtbebficgcemkoaaGreatDoor
/- THE CELL 'sum', in the pinned program and in every row, IS THE sha256 OF THE DUMP (.gsa) THAT YtbebficgcemkoaaGreatDoorProg.lean LOADS. Nothing in Lean hashes anything: it is a label: what it is worth is what the hold of that sum in a sandbox is worth. -/
noncomputable def Tryz.pinned : Pinned := { name := "ytbebficgcemkoaagreatdoor", sum := "602a35de1910a446e17f3c1728b6465192471da857c2e77dd69ac04c76a67b36", checked := Tryz.checked }
namespace Rows
def none {H : Type} : Left H := { results := [], args := [] }

/- WHAT THE LISTED PACKAGE-LEVEL VARIABLES READ AS WHEN THE CALL BEGINS. Each datum BY PROGRAM (the guide's laid-datum.mjs) off the statement by which the dump's own 'gosem.cut.vars' lays the variable. In a bare row this is a premise. The card (YtbebficgcemkoaaGreatDoorCards.lean) ties it to the program's text. -/
def laid_math_bits_deBruijn32tab {H : Type} : DataW H := .agg [.lit (.int .u8 0), .lit (.int .u8 1), .lit (.int .u8 28), .lit (.int .u8 2), .lit (.int .u8 29), .lit (.int .u8 14), .lit (.int .u8 24), .lit (.int .u8 3), .lit (.int .u8 30), .lit (.int .u8 22), .lit (.int .u8 20), .lit (.int .u8 15), .lit (.int .u8 25), .lit (.int .u8 17), .lit (.int .u8 4), .lit (.int .u8 8), .lit (.int .u8 31), .lit (.int .u8 27), .lit (.int .u8 13), .lit (.int .u8 23), .lit (.int .u8 21), .lit (.int .u8 19), .lit (.int .u8 16), .lit (.int .u8 7), .lit (.int .u8 26), .lit (.int .u8 12), .lit (.int .u8 18), .lit (.int .u8 6), .lit (.int .u8 11), .lit (.int .u8 5), .lit (.int .u8 10), .lit (.int .u8 9)]
def laid_math_bits_deBruijn64tab {H : Type} : DataW H := .agg [.lit (.int .u8 0), .lit (.int .u8 1), .lit (.int .u8 56), .lit (.int .u8 2), .lit (.int .u8 57), .lit (.int .u8 49), .lit (.int .u8 28), .lit (.int .u8 3), .lit (.int .u8 61), .lit (.int .u8 58), .lit (.int .u8 42), .lit (.int .u8 50), .lit (.int .u8 38), .lit (.int .u8 29), .lit (.int .u8 17), .lit (.int .u8 4), .lit (.int .u8 62), .lit (.int .u8 47), .lit (.int .u8 59), .lit (.int .u8 36), .lit (.int .u8 45), .lit (.int .u8 43), .lit (.int .u8 51), .lit (.int .u8 22), .lit (.int .u8 53), .lit (.int .u8 39), .lit (.int .u8 33), .lit (.int .u8 30), .lit (.int .u8 24), .lit (.int .u8 18), .lit (.int .u8 12), .lit (.int .u8 5), .lit (.int .u8 63), .lit (.int .u8 55), .lit (.int .u8 48), .lit (.int .u8 27), .lit (.int .u8 60), .lit (.int .u8 41), .lit (.int .u8 37), .lit (.int .u8 16), .lit (.int .u8 46), .lit (.int .u8 35), .lit (.int .u8 44), .lit (.int .u8 21), .lit (.int .u8 52), .lit (.int .u8 32), .lit (.int .u8 23), .lit (.int .u8 11), .lit (.int .u8 54), .lit (.int .u8 26), .lit (.int .u8 40), .lit (.int .u8 15), .lit (.int .u8 34), .lit (.int .u8 20), .lit (.int .u8 31), .lit (.int .u8 10), .lit (.int .u8 25), .lit (.int .u8 14), .lit (.int .u8 19), .lit (.int .u8 9), .lit (.int .u8 13), .lit (.int .u8 8), .lit (.int .u8 7), .lit (.int .u8 6)]
def laid_internal_strconv_uint64pow10 {H : Type} : DataW H := .agg [.lit (.int .u64 1), .lit (.int .u64 10), .lit (.int .u64 100), .lit (.int .u64 1000), .lit (.int .u64 10000), .lit (.int .u64 100000), .lit (.int .u64 1000000), .lit (.int .u64 10000000), .lit (.int .u64 100000000), .lit (.int .u64 1000000000), .lit (.int .u64 10000000000), .lit (.int .u64 100000000000), .lit (.int .u64 1000000000000), .lit (.int .u64 10000000000000), .lit (.int .u64 100000000000000), .lit (.int .u64 1000000000000000), .lit (.int .u64 10000000000000000), .lit (.int .u64 100000000000000000), .lit (.int .u64 1000000000000000000), .lit (.int .u64 10000000000000000000)]
def laid_fescue_shape_rows {H : Type} : DataW H := .agg [.agg [.lit (.int .u8 0), .lit (.int .u8 0), .lit (.int .u8 0), .lit (.int .u8 0), .lit (.int .i64 0), .lit (.int .i64 0), .lit (.int .i64 0)], .agg [.lit (.int .u8 2), .lit (.int .u8 0), .lit (.int .u8 0), .lit (.int .u8 1), .lit (.int .i64 0), .lit (.int .i64 0), .lit (.int .i64 0)], .agg [.lit (.int .u8 2), .lit (.int .u8 0), .lit (.int .u8 0), .lit (.int .u8 0), .lit (.int .i64 0), .lit (.int .i64 0), .lit (.int .i64 0)], .agg [.lit (.int .u8 2), .lit (.int .u8 0), .lit (.int .u8 0), .lit (.int .u8 4), .lit (.int .i64 0), .lit (.int .i64 0), .lit (.int .i64 0)], .agg [.lit (.int .u8 2), .lit (.int .u8 3), .lit (.int .u8 3), .lit (.int .u8 0), .lit (.int .i64 0), .lit (.int .i64 0), .lit (.int .i64 0)], .agg [.lit (.int .u8 2), .lit (.int .u8 3), .lit (.int .u8 3), .lit (.int .u8 0), .lit (.int .i64 0), .lit (.int .i64 0), .lit (.int .i64 0)], .agg [.lit (.int .u8 2), .lit (.int .u8 3), .lit (.int .u8 3), .lit (.int .u8 0), .lit (.int .i64 0), .lit (.int .i64 0), .lit (.int .i64 0)], .agg [.lit (.int .u8 2), .lit (.int .u8 3), .lit (.int .u8 3), .lit (.int .u8 0), .lit (.int .i64 0), .lit (.int .i64 0), .lit (.int .i64 0)], .agg [.lit (.int .u8 2), .lit (.int .u8 3), .lit (.int .u8 3), .lit (.int .u8 0), .lit (.int .i64 0), .lit (.int .i64 0), .lit (.int .i64 0)], .agg [.lit (.int .u8 2), .lit (.int .u8 3), .lit (.int .u8 3), .lit (.int .u8 0), .lit (.int .i64 0), .lit (.int .i64 0), .lit (.int .i64 0)], .agg [.lit (.int .u8 2), .lit (.int .u8 3), .lit (.int .u8 3), .lit (.int .u8 0), .lit (.int .i64 0), .lit (.int .i64 0), .lit (.int .i64 0)], .agg [.lit (.int .u8 2), .lit (.int .u8 0), .lit (.int .u8 0), .lit (.int .u8 0), .lit (.int .i64 0), .lit (.int .i64 0), .lit (.int .i64 0)], .agg [.lit (.int .u8 2), .lit (.int .u8 0), .lit (.int .u8 0), .lit (.int .u8 0), .lit (.int .i64 0), .lit (.int .i64 0), .lit (.int .i64 0)], .agg [.lit (.int .u8 0), .lit (.int .u8 3), .lit (.int .u8 0), .lit (.int .u8 0), .lit (.int .i64 0), .lit (.int .i64 0), .lit (.int .i64 0)], .agg [.lit (.int .u8 2), .lit (.int .u8 3), .lit (.int .u8 0), .lit (.int .u8 6), .lit (.int .i64 0), .lit (.int .i64 0), .lit (.int .i64 0)], .agg [.lit (.int .u8 2), .lit (.int .u8 3), .lit (.int .u8 3), .lit (.int .u8 0), .lit (.int .i64 0), .lit (.int .i64 0), .lit (.int .i64 0)], .agg [.lit (.int .u8 2), .lit (.int .u8 3), .lit (.int .u8 0), .lit (.int .u8 0), .lit (.int .i64 0), .lit (.int .i64 0), .lit (.int .i64 0)], .agg [.lit (.int .u8 0), .lit (.int .u8 3), .lit (.int .u8 3), .lit (.int .u8 0), .lit (.int .i64 0), .lit (.int .i64 0), .lit (.int .i64 0)], .agg [.lit (.int .u8 2), .lit (.int .u8 0), .lit (.int .u8 0), .lit (.int .u8 4), .lit (.int .i64 0), .lit (.int .i64 4), .lit (.int .i64 0)], .agg [.lit (.int .u8 2), .lit (.int .u8 3), .lit (.int .u8 0), .lit (.int .u8 0), .lit (.int .i64 0), .lit (.int .i64 4), .lit (.int .i64 0)], .agg [.lit (.int .u8 2), .lit (.int .u8 0), .lit (.int .u8 0), .lit (.int .u8 0), .lit (.int .i64 0), .lit (.int .i64 0), .lit (.int .i64 0)], .agg [.lit (.int .u8 0), .lit (.int .u8 3), .lit (.int .u8 0), .lit (.int .u8 0), .lit (.int .i64 0), .lit (.int .i64 0), .lit (.int .i64 0)], .agg [.lit (.int .u8 2), .lit (.int .u8 0), .lit (.int .u8 0), .lit (.int .u8 0), .lit (.int .i64 1), .lit (.int .i64 16), .lit (.int .i64 1)]]
def laid_fescue_shape_endRows {H : Type} : DataW H := .agg [.agg [.lit (.int .u8 0), .lit (.int .u8 0), .lit (.int .u8 0)], .agg [.lit (.int .u8 0), .lit (.int .u8 5), .lit (.int .u8 0)], .agg [.lit (.int .u8 3), .lit (.int .u8 5), .lit (.int .u8 5)], .agg [.lit (.int .u8 3), .lit (.int .u8 0), .lit (.int .u8 0)]]
def laid_fescue_lex_kinds {H : Type} : DataW H := .agg [.lit (.int .u8 0), .lit (.int .u8 0), .lit (.int .u8 0), .lit (.int .u8 0), .lit (.int .u8 0), .lit (.int .u8 0), .lit (.int .u8 0), .lit (.int .u8 0), .lit (.int .u8 0), .lit (.int .u8 1), .lit (.int .u8 2), .lit (.int .u8 0), .lit (.int .u8 0), .lit (.int .u8 1), .lit (.int .u8 0), .lit (.int .u8 0), .lit (.int .u8 0), .lit (.int .u8 0), .lit (.int .u8 0), .lit (.int .u8 0), .lit (.int .u8 0), .lit (.int .u8 0), .lit (.int .u8 0), .lit (.int .u8 0), .lit (.int .u8 0), .lit (.int .u8 0), .lit (.int .u8 0), .lit (.int .u8 0), .lit (.int .u8 0), .lit (.int .u8 0), .lit (.int .u8 0), .lit (.int .u8 0), .lit (.int .u8 1), .lit (.int .u8 0), .lit (.int .u8 0), .lit (.int .u8 3)]
def laid_fescue_read_ops {H : Type} : DataW H := .agg [.lit (.string []), .lit (.string [105, 110, 116]), .lit (.string [110, 117, 108, 108]), .lit (.string [102, 110]), .lit (.string [97, 100, 100]), .lit (.string [115, 117, 98]), .lit (.string [109, 117, 108]), .lit (.string [100, 105, 118]), .lit (.string [108, 101, 115, 115]), .lit (.string [101, 113]), .lit (.string [115, 97, 109, 101]), .lit (.string [110, 101, 119]), .lit (.string [108, 111, 99, 97, 108]), .lit (.string [102, 114, 101, 101]), .lit (.string [102, 105, 101, 108, 100]), .lit (.string [101, 108, 101, 109]), .lit (.string [108, 111, 97, 100]), .lit (.string [115, 116, 111, 114, 101]), .lit (.string [99, 97, 108, 108]), .lit (.string [105, 99, 97, 108, 108]), .lit (.string [114, 101, 97, 100]), .lit (.string [112, 114, 105, 110, 116]), .lit (.string [112, 104, 105])]
def laid_fescue_write_ops {H : Type} : DataW H := .agg [.lit (.string []), .lit (.string [105, 110, 116]), .lit (.string [110, 117, 108, 108]), .lit (.string [102, 110]), .lit (.string [97, 100, 100]), .lit (.string [115, 117, 98]), .lit (.string [109, 117, 108]), .lit (.string [100, 105, 118]), .lit (.string [108, 101, 115, 115]), .lit (.string [101, 113]), .lit (.string [115, 97, 109, 101]), .lit (.string [110, 101, 119]), .lit (.string [108, 111, 99, 97, 108]), .lit (.string [102, 114, 101, 101]), .lit (.string [102, 105, 101, 108, 100]), .lit (.string [101, 108, 101, 109]), .lit (.string [108, 111, 97, 100]), .lit (.string [115, 116, 111, 114, 101]), .lit (.string [99, 97, 108, 108]), .lit (.string [105, 99, 97, 108, 108]), .lit (.string [114, 101, 97, 100]), .lit (.string [112, 114, 105, 110, 116]), .lit (.string [112, 104, 105])]

/-- 'fescuelaw08.WriteNames': WHATEVER THE INPUT: true; the input reads as it did. -/
def writeNamesSpec : ChangeSpec := { name := "writeNames", fn := fun _ => fun
  | [] => { results := [.lit (.bool true)], args := [] }
  | _ => none }
def writeNamesRow : OpenClaim := { program := "ytbebficgcemkoaagreatdoor", sum := "602a35de1910a446e17f3c1728b6465192471da857c2e77dd69ac04c76a67b36", func := "fescue/fescuelaw08.WriteNames", spec := "writeNames", inPlace := ["internal/abi.NoEscape", "internal/bytealg.MakeNoZero"], unfollowed := true, recurses := true, named := ["fescue/shape.endRows", "fescue/shape.rows", "internal/strconv.uint64pow10", "math/bits.deBruijn32tab", "math/bits.deBruijn64tab", "fescue/write.ops", "fescue/lex.kinds", "fescue/read.ops"], apart := false, laid := [("math/bits.deBruijn32tab", laid_math_bits_deBruijn32tab), ("math/bits.deBruijn64tab", laid_math_bits_deBruijn64tab), ("internal/strconv.uint64pow10", laid_internal_strconv_uint64pow10), ("fescue/shape.rows", laid_fescue_shape_rows), ("fescue/shape.endRows", laid_fescue_shape_endRows), ("fescue/lex.kinds", laid_fescue_lex_kinds), ("fescue/read.ops", laid_fescue_read_ops), ("fescue/write.ops", laid_fescue_write_ops)] }
def WriteNamesSaid : Prop := writeNamesRow.holds Tryz.pinned (OpenSpec.ofChange writeNamesSpec)

/-- ITS FALSE NEIGHBOUR: 'it returns false'. Refute it at one input. -/
def writeNamesWrong : ChangeSpec := { name := "writeNames", fn := fun _ => fun
  | [] => { results := [.lit (.bool false)], args := [] }
  | _ => none }
def WriteNamesWrongFalsely : Prop := writeNamesRow.holds Tryz.pinned (OpenSpec.ofChange writeNamesWrong)

/-- 'fescuelaw08.WriteTells': WHATEVER THE INPUT: true; the input reads as it did. -/
def writeTellsSpec : ChangeSpec := { name := "writeTells", fn := fun _ => fun
  | [d] => { results := [.lit (.bool true)], args := [d] }
  | _ => none }
def writeTellsRow : OpenClaim := { program := "ytbebficgcemkoaagreatdoor", sum := "602a35de1910a446e17f3c1728b6465192471da857c2e77dd69ac04c76a67b36", func := "fescue/fescuelaw08.WriteTells", spec := "writeTells", inPlace := ["internal/abi.NoEscape", "internal/bytealg.MakeNoZero"], unfollowed := true, recurses := true, named := ["fescue/shape.endRows", "fescue/shape.rows", "internal/strconv.uint64pow10", "math/bits.deBruijn32tab", "math/bits.deBruijn64tab", "fescue/write.ops", "fescue/lex.kinds"], apart := false, laid := [("math/bits.deBruijn32tab", laid_math_bits_deBruijn32tab), ("math/bits.deBruijn64tab", laid_math_bits_deBruijn64tab), ("internal/strconv.uint64pow10", laid_internal_strconv_uint64pow10), ("fescue/shape.rows", laid_fescue_shape_rows), ("fescue/shape.endRows", laid_fescue_shape_endRows), ("fescue/lex.kinds", laid_fescue_lex_kinds), ("fescue/write.ops", laid_fescue_write_ops)] }
def WriteTellsSaid : Prop := writeTellsRow.holds Tryz.pinned (OpenSpec.ofChange writeTellsSpec)

/-- ITS FALSE NEIGHBOUR: 'it returns false'. Refute it at one input. -/
def writeTellsWrong : ChangeSpec := { name := "writeTells", fn := fun _ => fun
  | [d] => { results := [.lit (.bool false)], args := [d] }
  | _ => none }
def WriteTellsWrongFalsely : Prop := writeTellsRow.holds Tryz.pinned (OpenSpec.ofChange writeTellsWrong)

/-- 'fescuelaw08.WriteCanons': WHATEVER THE INPUT: true; the input reads as it did. -/
def writeCanonsSpec : ChangeSpec := { name := "writeCanons", fn := fun _ => fun
  | [d] => { results := [.lit (.bool true)], args := [d] }
  | _ => none }
def writeCanonsRow : OpenClaim := { program := "ytbebficgcemkoaagreatdoor", sum := "602a35de1910a446e17f3c1728b6465192471da857c2e77dd69ac04c76a67b36", func := "fescue/fescuelaw08.WriteCanons", spec := "writeCanons", inPlace := ["internal/abi.NoEscape", "internal/bytealg.MakeNoZero"], unfollowed := true, recurses := true, named := ["fescue/lex.kinds", "fescue/read.ops", "fescue/shape.rows", "fescue/shape.endRows", "internal/strconv.uint64pow10", "math/bits.deBruijn32tab", "math/bits.deBruijn64tab", "fescue/write.ops"], apart := false, laid := [("math/bits.deBruijn32tab", laid_math_bits_deBruijn32tab), ("math/bits.deBruijn64tab", laid_math_bits_deBruijn64tab), ("internal/strconv.uint64pow10", laid_internal_strconv_uint64pow10), ("fescue/shape.rows", laid_fescue_shape_rows), ("fescue/shape.endRows", laid_fescue_shape_endRows), ("fescue/lex.kinds", laid_fescue_lex_kinds), ("fescue/read.ops", laid_fescue_read_ops), ("fescue/write.ops", laid_fescue_write_ops)] }
def WriteCanonsSaid : Prop := writeCanonsRow.holds Tryz.pinned (OpenSpec.ofChange writeCanonsSpec)

/-- ITS FALSE NEIGHBOUR: 'it returns false'. Refute it at one input. -/
def writeCanonsWrong : ChangeSpec := { name := "writeCanons", fn := fun _ => fun
  | [d] => { results := [.lit (.bool false)], args := [d] }
  | _ => none }
def WriteCanonsWrongFalsely : Prop := writeCanonsRow.holds Tryz.pinned (OpenSpec.ofChange writeCanonsWrong)

/-- 'fescuelaw08.WriteBack': WHATEVER THE INPUT: true; the input reads as it did. -/
def writeBackSpec : ChangeSpec := { name := "writeBack", fn := fun _ => fun
  | [d] => { results := [.lit (.bool true)], args := [d] }
  | _ => none }
def writeBackRow : OpenClaim := { program := "ytbebficgcemkoaagreatdoor", sum := "602a35de1910a446e17f3c1728b6465192471da857c2e77dd69ac04c76a67b36", func := "fescue/fescuelaw08.WriteBack", spec := "writeBack", inPlace := ["internal/abi.NoEscape", "internal/bytealg.MakeNoZero"], unfollowed := true, recurses := true, named := ["fescue/lex.kinds", "fescue/read.ops", "fescue/shape.rows", "fescue/shape.endRows", "internal/strconv.uint64pow10", "math/bits.deBruijn32tab", "math/bits.deBruijn64tab", "fescue/write.ops"], apart := false, laid := [("math/bits.deBruijn32tab", laid_math_bits_deBruijn32tab), ("math/bits.deBruijn64tab", laid_math_bits_deBruijn64tab), ("internal/strconv.uint64pow10", laid_internal_strconv_uint64pow10), ("fescue/shape.rows", laid_fescue_shape_rows), ("fescue/shape.endRows", laid_fescue_shape_endRows), ("fescue/lex.kinds", laid_fescue_lex_kinds), ("fescue/read.ops", laid_fescue_read_ops), ("fescue/write.ops", laid_fescue_write_ops)] }
def WriteBackSaid : Prop := writeBackRow.holds Tryz.pinned (OpenSpec.ofChange writeBackSpec)

/-- ITS FALSE NEIGHBOUR: 'it returns false'. Refute it at one input. -/
def writeBackWrong : ChangeSpec := { name := "writeBack", fn := fun _ => fun
  | [d] => { results := [.lit (.bool false)], args := [d] }
  | _ => none }
def WriteBackWrongFalsely : Prop := writeBackRow.holds Tryz.pinned (OpenSpec.ofChange writeBackWrong)

/-- 'fescuelaw08.WriteCanon': WHATEVER THE INPUT: true; the input reads as it did. -/
def writeCanonSpec : ChangeSpec := { name := "writeCanon", fn := fun _ => fun
  | [d] => { results := [.lit (.bool true)], args := [d] }
  | _ => none }
def writeCanonRow : OpenClaim := { program := "ytbebficgcemkoaagreatdoor", sum := "602a35de1910a446e17f3c1728b6465192471da857c2e77dd69ac04c76a67b36", func := "fescue/fescuelaw08.WriteCanon", spec := "writeCanon", inPlace := ["internal/abi.NoEscape", "internal/bytealg.MakeNoZero"], unfollowed := true, recurses := true, named := ["fescue/lex.kinds", "fescue/read.ops", "fescue/shape.rows", "fescue/shape.endRows", "internal/strconv.uint64pow10", "math/bits.deBruijn32tab", "math/bits.deBruijn64tab", "fescue/write.ops"], apart := false, laid := [("math/bits.deBruijn32tab", laid_math_bits_deBruijn32tab), ("math/bits.deBruijn64tab", laid_math_bits_deBruijn64tab), ("internal/strconv.uint64pow10", laid_internal_strconv_uint64pow10), ("fescue/shape.rows", laid_fescue_shape_rows), ("fescue/shape.endRows", laid_fescue_shape_endRows), ("fescue/lex.kinds", laid_fescue_lex_kinds), ("fescue/read.ops", laid_fescue_read_ops), ("fescue/write.ops", laid_fescue_write_ops)] }
def WriteCanonSaid : Prop := writeCanonRow.holds Tryz.pinned (OpenSpec.ofChange writeCanonSpec)

/-- ITS FALSE NEIGHBOUR: 'it returns false'. Refute it at one input. -/
def writeCanonWrong : ChangeSpec := { name := "writeCanon", fn := fun _ => fun
  | [d] => { results := [.lit (.bool false)], args := [d] }
  | _ => none }
def WriteCanonWrongFalsely : Prop := writeCanonRow.holds Tryz.pinned (OpenSpec.ofChange writeCanonWrong)

/-- 'fescuelaw08.WriteApart': WHATEVER THE INPUT: true; the input reads as it did. -/
def writeApartSpec : ChangeSpec := { name := "writeApart", fn := fun _ => fun
  | [d1, d2] => { results := [.lit (.bool true)], args := [d1, d2] }
  | _ => none }
def writeApartRow : OpenClaim := { program := "ytbebficgcemkoaagreatdoor", sum := "602a35de1910a446e17f3c1728b6465192471da857c2e77dd69ac04c76a67b36", func := "fescue/fescuelaw08.WriteApart", spec := "writeApart", inPlace := ["internal/abi.NoEscape", "internal/bytealg.MakeNoZero"], unfollowed := true, recurses := true, named := ["fescue/lex.kinds", "fescue/read.ops", "fescue/shape.rows", "fescue/shape.endRows", "internal/strconv.uint64pow10", "math/bits.deBruijn32tab", "math/bits.deBruijn64tab", "fescue/write.ops"], apart := false, laid := [("math/bits.deBruijn32tab", laid_math_bits_deBruijn32tab), ("math/bits.deBruijn64tab", laid_math_bits_deBruijn64tab), ("internal/strconv.uint64pow10", laid_internal_strconv_uint64pow10), ("fescue/shape.rows", laid_fescue_shape_rows), ("fescue/shape.endRows", laid_fescue_shape_endRows), ("fescue/lex.kinds", laid_fescue_lex_kinds), ("fescue/read.ops", laid_fescue_read_ops), ("fescue/write.ops", laid_fescue_write_ops)] }
def WriteApartSaid : Prop := writeApartRow.holds Tryz.pinned (OpenSpec.ofChange writeApartSpec)

/-- ITS FALSE NEIGHBOUR: 'it returns false'. Refute it at one input. -/
def writeApartWrong : ChangeSpec := { name := "writeApart", fn := fun _ => fun
  | [d1, d2] => { results := [.lit (.bool false)], args := [d1, d2] }
  | _ => none }
def WriteApartWrongFalsely : Prop := writeApartRow.holds Tryz.pinned (OpenSpec.ofChange writeApartWrong)

/- THE SECOND FORM. 'bulk': how many values and letters a reading holds, each counted each time it is reached (what is shared counts as often as it is met; a slice's spare places count too). A statement '..UptoSaid' is the law's where the arguments, and the package variables that the reading takes, are together of bulk at most 1048576: NARROWER than '..Said'. Prove '..Said' where nothing that the law and all that it calls make is longer than what came in: it says more and counts as full. Else prove '..UptoSaid'. A law counts once. -/
mutual
def uptoBulk {H : Type} : DataW H → Nat
  | .lit (.string bytes) => bytes.length + 1
  | .lit _ => 1
  | .nil => 1
  | .ptr d => uptoBulk d + 1
  | .slice elems spare => uptoBulkAll elems + uptoBulkAll spare + 1
  | .agg parts => uptoBulkAll parts + 1
  | .iface _ d => uptoBulk d + 1
  | .map entries => uptoBulkEntries entries + 1
  | .held _ => 1
def uptoBulkAll {H : Type} : List (DataW H) → Nat
  | [] => 0
  | d :: r => uptoBulk d + uptoBulkAll r
def uptoBulkEntries {H : Type} : List (Lit × DataW H) → Nat
  | [] => 0
  | x :: r => uptoBulkEntry x + uptoBulkEntries r
def uptoBulkEntry {H : Type} : Lit × DataW H → Nat
  | (.string bytes, d) => bytes.length + uptoBulk d + 1
  | (_, d) => uptoBulk d + 1
 end
def uptoSmall : (H : Type) → List (DataW H) → Bool := fun _ ds => decide (uptoBulkAll ds ≤ 1048576)
def OpenSpec.upto (s : _root_.Go.ChangeSpec) : _root_.Go.OpenSpec := { _root_.Go.OpenSpec.ofChange s with cond := some uptoSmall }

/-- 'fescuelaw08.WriteNames', WHERE WHAT IT READS IS OF BULK AT MOST 1048576: true; the input reads as it did. -/
def writeNamesUptoRow : OpenClaim := { program := "ytbebficgcemkoaagreatdoor", sum := "602a35de1910a446e17f3c1728b6465192471da857c2e77dd69ac04c76a67b36", func := "fescue/fescuelaw08.WriteNames", spec := "writeNames", inPlace := ["internal/abi.NoEscape", "internal/bytealg.MakeNoZero"], unfollowed := true, recurses := true, named := ["fescue/shape.endRows", "fescue/shape.rows", "internal/strconv.uint64pow10", "math/bits.deBruijn32tab", "math/bits.deBruijn64tab", "fescue/write.ops", "fescue/lex.kinds", "fescue/read.ops"], apart := false, laid := [("math/bits.deBruijn32tab", laid_math_bits_deBruijn32tab), ("math/bits.deBruijn64tab", laid_math_bits_deBruijn64tab), ("internal/strconv.uint64pow10", laid_internal_strconv_uint64pow10), ("fescue/shape.rows", laid_fescue_shape_rows), ("fescue/shape.endRows", laid_fescue_shape_endRows), ("fescue/lex.kinds", laid_fescue_lex_kinds), ("fescue/read.ops", laid_fescue_read_ops), ("fescue/write.ops", laid_fescue_write_ops)], narrowed := true }
def WriteNamesUptoSaid : Prop := writeNamesUptoRow.holds Tryz.pinned (OpenSpec.upto writeNamesSpec)

/-- 'fescuelaw08.WriteTells', WHERE WHAT IT READS IS OF BULK AT MOST 1048576: true; the input reads as it did. -/
def writeTellsUptoRow : OpenClaim := { program := "ytbebficgcemkoaagreatdoor", sum := "602a35de1910a446e17f3c1728b6465192471da857c2e77dd69ac04c76a67b36", func := "fescue/fescuelaw08.WriteTells", spec := "writeTells", inPlace := ["internal/abi.NoEscape", "internal/bytealg.MakeNoZero"], unfollowed := true, recurses := true, named := ["fescue/shape.endRows", "fescue/shape.rows", "internal/strconv.uint64pow10", "math/bits.deBruijn32tab", "math/bits.deBruijn64tab", "fescue/write.ops", "fescue/lex.kinds"], apart := false, laid := [("math/bits.deBruijn32tab", laid_math_bits_deBruijn32tab), ("math/bits.deBruijn64tab", laid_math_bits_deBruijn64tab), ("internal/strconv.uint64pow10", laid_internal_strconv_uint64pow10), ("fescue/shape.rows", laid_fescue_shape_rows), ("fescue/shape.endRows", laid_fescue_shape_endRows), ("fescue/lex.kinds", laid_fescue_lex_kinds), ("fescue/write.ops", laid_fescue_write_ops)], narrowed := true }
def WriteTellsUptoSaid : Prop := writeTellsUptoRow.holds Tryz.pinned (OpenSpec.upto writeTellsSpec)

/-- 'fescuelaw08.WriteCanons', WHERE WHAT IT READS IS OF BULK AT MOST 1048576: true; the input reads as it did. -/
def writeCanonsUptoRow : OpenClaim := { program := "ytbebficgcemkoaagreatdoor", sum := "602a35de1910a446e17f3c1728b6465192471da857c2e77dd69ac04c76a67b36", func := "fescue/fescuelaw08.WriteCanons", spec := "writeCanons", inPlace := ["internal/abi.NoEscape", "internal/bytealg.MakeNoZero"], unfollowed := true, recurses := true, named := ["fescue/lex.kinds", "fescue/read.ops", "fescue/shape.rows", "fescue/shape.endRows", "internal/strconv.uint64pow10", "math/bits.deBruijn32tab", "math/bits.deBruijn64tab", "fescue/write.ops"], apart := false, laid := [("math/bits.deBruijn32tab", laid_math_bits_deBruijn32tab), ("math/bits.deBruijn64tab", laid_math_bits_deBruijn64tab), ("internal/strconv.uint64pow10", laid_internal_strconv_uint64pow10), ("fescue/shape.rows", laid_fescue_shape_rows), ("fescue/shape.endRows", laid_fescue_shape_endRows), ("fescue/lex.kinds", laid_fescue_lex_kinds), ("fescue/read.ops", laid_fescue_read_ops), ("fescue/write.ops", laid_fescue_write_ops)], narrowed := true }
def WriteCanonsUptoSaid : Prop := writeCanonsUptoRow.holds Tryz.pinned (OpenSpec.upto writeCanonsSpec)

/-- 'fescuelaw08.WriteBack', WHERE WHAT IT READS IS OF BULK AT MOST 1048576: true; the input reads as it did. -/
def writeBackUptoRow : OpenClaim := { program := "ytbebficgcemkoaagreatdoor", sum := "602a35de1910a446e17f3c1728b6465192471da857c2e77dd69ac04c76a67b36", func := "fescue/fescuelaw08.WriteBack", spec := "writeBack", inPlace := ["internal/abi.NoEscape", "internal/bytealg.MakeNoZero"], unfollowed := true, recurses := true, named := ["fescue/lex.kinds", "fescue/read.ops", "fescue/shape.rows", "fescue/shape.endRows", "internal/strconv.uint64pow10", "math/bits.deBruijn32tab", "math/bits.deBruijn64tab", "fescue/write.ops"], apart := false, laid := [("math/bits.deBruijn32tab", laid_math_bits_deBruijn32tab), ("math/bits.deBruijn64tab", laid_math_bits_deBruijn64tab), ("internal/strconv.uint64pow10", laid_internal_strconv_uint64pow10), ("fescue/shape.rows", laid_fescue_shape_rows), ("fescue/shape.endRows", laid_fescue_shape_endRows), ("fescue/lex.kinds", laid_fescue_lex_kinds), ("fescue/read.ops", laid_fescue_read_ops), ("fescue/write.ops", laid_fescue_write_ops)], narrowed := true }
def WriteBackUptoSaid : Prop := writeBackUptoRow.holds Tryz.pinned (OpenSpec.upto writeBackSpec)

/-- 'fescuelaw08.WriteCanon', WHERE WHAT IT READS IS OF BULK AT MOST 1048576: true; the input reads as it did. -/
def writeCanonUptoRow : OpenClaim := { program := "ytbebficgcemkoaagreatdoor", sum := "602a35de1910a446e17f3c1728b6465192471da857c2e77dd69ac04c76a67b36", func := "fescue/fescuelaw08.WriteCanon", spec := "writeCanon", inPlace := ["internal/abi.NoEscape", "internal/bytealg.MakeNoZero"], unfollowed := true, recurses := true, named := ["fescue/lex.kinds", "fescue/read.ops", "fescue/shape.rows", "fescue/shape.endRows", "internal/strconv.uint64pow10", "math/bits.deBruijn32tab", "math/bits.deBruijn64tab", "fescue/write.ops"], apart := false, laid := [("math/bits.deBruijn32tab", laid_math_bits_deBruijn32tab), ("math/bits.deBruijn64tab", laid_math_bits_deBruijn64tab), ("internal/strconv.uint64pow10", laid_internal_strconv_uint64pow10), ("fescue/shape.rows", laid_fescue_shape_rows), ("fescue/shape.endRows", laid_fescue_shape_endRows), ("fescue/lex.kinds", laid_fescue_lex_kinds), ("fescue/read.ops", laid_fescue_read_ops), ("fescue/write.ops", laid_fescue_write_ops)], narrowed := true }
def WriteCanonUptoSaid : Prop := writeCanonUptoRow.holds Tryz.pinned (OpenSpec.upto writeCanonSpec)

/-- 'fescuelaw08.WriteApart', WHERE WHAT IT READS IS OF BULK AT MOST 1048576: true; the input reads as it did. -/
def writeApartUptoRow : OpenClaim := { program := "ytbebficgcemkoaagreatdoor", sum := "602a35de1910a446e17f3c1728b6465192471da857c2e77dd69ac04c76a67b36", func := "fescue/fescuelaw08.WriteApart", spec := "writeApart", inPlace := ["internal/abi.NoEscape", "internal/bytealg.MakeNoZero"], unfollowed := true, recurses := true, named := ["fescue/lex.kinds", "fescue/read.ops", "fescue/shape.rows", "fescue/shape.endRows", "internal/strconv.uint64pow10", "math/bits.deBruijn32tab", "math/bits.deBruijn64tab", "fescue/write.ops"], apart := false, laid := [("math/bits.deBruijn32tab", laid_math_bits_deBruijn32tab), ("math/bits.deBruijn64tab", laid_math_bits_deBruijn64tab), ("internal/strconv.uint64pow10", laid_internal_strconv_uint64pow10), ("fescue/shape.rows", laid_fescue_shape_rows), ("fescue/shape.endRows", laid_fescue_shape_endRows), ("fescue/lex.kinds", laid_fescue_lex_kinds), ("fescue/read.ops", laid_fescue_read_ops), ("fescue/write.ops", laid_fescue_write_ops)], narrowed := true }
def WriteApartUptoSaid : Prop := writeApartUptoRow.holds Tryz.pinned (OpenSpec.upto writeApartSpec)

end Rows
end Go.Proofs.YtbebficgcemkoaaGreatDoor
