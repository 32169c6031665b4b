/-
  DERIVED. GIVEN WITH THE SEED: THE PROGRAM's TIES (one call each: nine closed facts by the kernel) AND EACH ROW's TIE, after the 31st guide's Derived/Test/Toyas{Tie, Card}.lean. No idea stands in it: it is a product of the set-up. Laid BY PROGRAM, IN A SANDBOX (cutbox-door.mjs). By AI agents, Wed Nov 11 2026. No macro, syntax, notation, axiom, sorry.
-/
import Derived.Test.YtpejpnffcepdlaaGreatDoorRows
import Derived.LaidByTextLater
import Derived.SevenTiedAt
import Derived.LaidSub
import Derived.LaidOnce
namespace Go.Proofs.YtpejpnffcepdlaaGreatDoor
open Go
set_option maxRecDepth 100000
theorem seatTie1 : Tryz.prog.laidByTextLater [("fescue/shape.rows", Rows.laid_fescue_shape_rows), ("fescue/shape.endRows", Rows.laid_fescue_shape_endRows), ("fescue/lex.kinds", Rows.laid_fescue_lex_kinds), ("fescue/read.ops", Rows.laid_fescue_read_ops)] [.data, .data, .data, .data] true :=
  Program.laidByTextLater_by_one 54 8 162 (by kernel_rfl) (by kernel_rfl) (by kernel_rfl) (by kernel_rfl) (by kernel_rfl) (by kernel_rfl) (fun _ _ => by kernel_rfl)
theorem noOwnUnsafe : Tryz.pinned.checked.prog.headLifts.contains "ownunsafe" = false := by kernel_rfl
theorem tie : Tryz.prog.laidByTextLater [("fescue/shape.rows", Rows.laid_fescue_shape_rows), ("fescue/shape.endRows", Rows.laid_fescue_shape_endRows), ("fescue/lex.kinds", Rows.laid_fescue_lex_kinds), ("fescue/read.ops", Rows.laid_fescue_read_ops)] [.data, .data, .data, .data] true :=
  Program.laidByTextLater.sub seatTie1 ["fescue/shape.rows", "fescue/shape.endRows", "fescue/lex.kinds", "fescue/read.ops"] (by kernel_rfl) (by kernel_rfl)
theorem soundNames_row_tie : Rows.soundNamesRow.laidByTextAt .later Tryz.pinned [.data, .data, .data, .data] true :=
  OpenClaim.laidByTextAt_later rfl rfl tie noOwnUnsafe
theorem tie2 : Tryz.prog.laidByTextLater [("fescue/shape.rows", Rows.laid_fescue_shape_rows), ("fescue/shape.endRows", Rows.laid_fescue_shape_endRows)] [.data, .data] true :=
  Program.laidByTextLater.sub seatTie1 ["fescue/shape.rows", "fescue/shape.endRows"] (by kernel_rfl) (by kernel_rfl)
theorem soundTells_row_tie : Rows.soundTellsRow.laidByTextAt .later Tryz.pinned [.data, .data] true :=
  OpenClaim.laidByTextAt_later rfl rfl tie2 noOwnUnsafe
theorem soundKinds_row_tie : Rows.soundKindsRow.laidByTextAt .later Tryz.pinned [.data, .data] true :=
  OpenClaim.laidByTextAt_later rfl rfl tie2 noOwnUnsafe
theorem soundLive_row_tie : Rows.soundLiveRow.laidByTextAt .later Tryz.pinned [.data, .data] true :=
  OpenClaim.laidByTextAt_later rfl rfl tie2 noOwnUnsafe
theorem soundBlocks_row_tie : Rows.soundBlocksRow.laidByTextAt .later Tryz.pinned [.data, .data] true :=
  OpenClaim.laidByTextAt_later rfl rfl tie2 noOwnUnsafe
theorem soundNamesUpto_row_tie : Rows.soundNamesUptoRow.laidByTextAt .later Tryz.pinned [.data, .data, .data, .data] true :=
  OpenClaim.laidByTextAt_later rfl rfl tie noOwnUnsafe
theorem soundTellsUpto_row_tie : Rows.soundTellsUptoRow.laidByTextAt .later Tryz.pinned [.data, .data] true :=
  OpenClaim.laidByTextAt_later rfl rfl tie2 noOwnUnsafe
theorem soundKindsUpto_row_tie : Rows.soundKindsUptoRow.laidByTextAt .later Tryz.pinned [.data, .data] true :=
  OpenClaim.laidByTextAt_later rfl rfl tie2 noOwnUnsafe
theorem soundLiveUpto_row_tie : Rows.soundLiveUptoRow.laidByTextAt .later Tryz.pinned [.data, .data] true :=
  OpenClaim.laidByTextAt_later rfl rfl tie2 noOwnUnsafe
theorem soundBlocksUpto_row_tie : Rows.soundBlocksUptoRow.laidByTextAt .later Tryz.pinned [.data, .data] true :=
  OpenClaim.laidByTextAt_later rfl rfl tie2 noOwnUnsafe
end Go.Proofs.YtpejpnffcepdlaaGreatDoor
