/- The program's two tables, as a row's condition lays them. -/
import Derived.Test.YtpejpnffcepdlaaGreatDoorZShAToShAn
import Derived.Test.YtpejpnffcepdlaaGreatDoorRows
import Derived.ProofKit
import Derived.OpenShut
import Derived.Lib.LaidTab
import Derived.LaidSub
namespace Go.Proofs.YtpejpnffcepdlaaGreatDoor.ShTab
open Go.RowKit Go.Lib ShM ShP ShA Go.ChangeShapes Go.WideShapes Go.ChangeAt

theorem cellsU8 : Tryz.prog.cellsOf 5 = 1 := by kernel_rfl
theorem cellsInt : Tryz.prog.cellsOf 3 = 1 := by kernel_rfl

theorem cellsH : Tryz.prog.cellsOf 89 = 7 := by kernel_rfl
theorem shapeH : (match Tryz.prog.underlying 89 with
  | some (.struct fs) => fs.toList.map fun f => (f.type, f.offset)
  | _ => []) = [(5, 0), (5, 1), (5, 2), (5, 3), (3, 4), (3, 5), (3, 6)] := by kernel_rfl
theorem strH : ∃ f0 f1 f2 f3 f4 f5 f6 : Field, Tryz.prog.underlying 89 = some (.struct #[f0, f1, f2, f3, f4, f5, f6]) ∧ (f0.type = 5 ∧ f0.offset = 0) ∧ (f1.type = 5 ∧ f1.offset = 1) ∧ (f2.type = 5 ∧ f2.offset = 2) ∧ (f3.type = 5 ∧ f3.offset = 3) ∧ (f4.type = 3 ∧ f4.offset = 4) ∧ (f5.type = 3 ∧ f5.offset = 5) ∧ (f6.type = 3 ∧ f6.offset = 6) := by
 have h := shapeH
 generalize Tryz.prog.underlying 89 = u at h
 cases u with
 | none => simp at h
 | some d =>
  cases d with
  | struct fs =>
   obtain ⟨l⟩ := fs
   rcases l with _ | ⟨f0, _ | ⟨f1, _ | ⟨f2, _ | ⟨f3, _ | ⟨f4, _ | ⟨f5, _ | ⟨f6, _ | ⟨g, r⟩⟩⟩⟩⟩⟩⟩⟩
   ·simp at h
   ·simp at h
   ·simp at h
   ·simp at h
   ·simp at h
   ·simp at h
   ·simp at h
   ·simp at h
    exact ⟨f0, f1, f2, f3, f4, f5, f6, rfl, h.1, h.2.1, h.2.2.1, h.2.2.2.1, h.2.2.2.2.1, h.2.2.2.2.2.1, h.2.2.2.2.2.2⟩
   ·simp at h
  | _ => simp at h
set_option maxRecDepth 100000 in
theorem openH {H : Type} {enc : TypeId × Value → H} {W : World} {held : Bool} {cs : List Value} {d : DataW H} {pl : List MemPlace} {n : Nat} (hl : cs.length = 7) (h : DataW.trod enc Tryz.prog W 0 (fun _ => true) held n 89 cs = some (d, pl)) :
  ∃ x0 x1 x2 x3 x4 x5 x6 : Int, cs = [.int .u8 x0, .int .u8 x1, .int .u8 x2, .int .u8 x3, .int .i64 x4, .int .i64 x5, .int .i64 x6] ∧ d = .agg [.lit (.int .u8 x0), .lit (.int .u8 x1), .lit (.int .u8 x2), .lit (.int .u8 x3), .lit (.int .i64 x4), .lit (.int .i64 x5), .lit (.int .i64 x6)] := by
 obtain ⟨f0, f1, f2, f3, f4, f5, f6, hu, ⟨t0, o0⟩, ⟨t1, o1⟩, ⟨t2, o2⟩, ⟨t3, o3⟩, ⟨t4, o4⟩, ⟨t5, o5⟩, ⟨t6, o6⟩⟩ := strH
 obtain ⟨xs, k, hk, hxy, _, hxl, hff⟩ := DataW.trod_struct hu h
 match xs, hxl, cs, hl with
 | [y0, y1, y2, y3, y4, y5, y6], _, [v0, v1, v2, v3, v4, v5, v6], _ =>
  have g0 := hff 0 f0 rfl
  simp [o0, t0, cellsU8] at g0
  obtain ⟨x0, hx0, hy0, _⟩ := DataW.trod_int Tryz.underlying5 g0
  simp at hx0
  have g1 := hff 1 f1 rfl
  simp [o1, t1, cellsU8] at g1
  obtain ⟨x1, hx1, hy1, _⟩ := DataW.trod_int Tryz.underlying5 g1
  simp at hx1
  have g2 := hff 2 f2 rfl
  simp [o2, t2, cellsU8] at g2
  obtain ⟨x2, hx2, hy2, _⟩ := DataW.trod_int Tryz.underlying5 g2
  simp at hx2
  have g3 := hff 3 f3 rfl
  simp [o3, t3, cellsU8] at g3
  obtain ⟨x3, hx3, hy3, _⟩ := DataW.trod_int Tryz.underlying5 g3
  simp at hx3
  have g4 := hff 4 f4 rfl
  simp [o4, t4, cellsInt] at g4
  obtain ⟨x4, hx4, hy4, _⟩ := DataW.trod_int Tryz.underlying3 g4
  simp at hx4
  have g5 := hff 5 f5 rfl
  simp [o5, t5, cellsInt] at g5
  obtain ⟨x5, hx5, hy5, _⟩ := DataW.trod_int Tryz.underlying3 g5
  simp at hx5
  have g6 := hff 6 f6 rfl
  simp [o6, t6, cellsInt] at g6
  obtain ⟨x6, hx6, hy6, _⟩ := DataW.trod_int Tryz.underlying3 g6
  simp at hx6
  subst hx0 hy0
  subst hx1 hy1
  subst hx2 hy2
  subst hx3 hy3
  subst hx4 hy4
  subst hx5 hy5
  subst hx6 hy6
  simp at hxy
  exact ⟨x0, x1, x2, x3, x4, x5, x6, rfl, hxy.1⟩
theorem cellsE : Tryz.prog.cellsOf 210 = 3 := by kernel_rfl
theorem shapeE : (match Tryz.prog.underlying 210 with
  | some (.struct fs) => fs.toList.map fun f => (f.type, f.offset)
  | _ => []) = [(5, 0), (5, 1), (5, 2)] := by kernel_rfl
theorem strE : ∃ f0 f1 f2 : Field, Tryz.prog.underlying 210 = some (.struct #[f0, f1, f2]) ∧ (f0.type = 5 ∧ f0.offset = 0) ∧ (f1.type = 5 ∧ f1.offset = 1) ∧ (f2.type = 5 ∧ f2.offset = 2) := by
 have h := shapeE
 generalize Tryz.prog.underlying 210 = u at h
 cases u with
 | none => simp at h
 | some d =>
  cases d with
  | struct fs =>
   obtain ⟨l⟩ := fs
   rcases l with _ | ⟨f0, _ | ⟨f1, _ | ⟨f2, _ | ⟨g, r⟩⟩⟩⟩
   ·simp at h
   ·simp at h
   ·simp at h
   ·simp at h
    exact ⟨f0, f1, f2, rfl, h.1, h.2.1, h.2.2⟩
   ·simp at h
  | _ => simp at h
set_option maxRecDepth 100000 in
theorem openE {H : Type} {enc : TypeId × Value → H} {W : World} {held : Bool} {cs : List Value} {d : DataW H} {pl : List MemPlace} {n : Nat} (hl : cs.length = 3) (h : DataW.trod enc Tryz.prog W 0 (fun _ => true) held n 210 cs = some (d, pl)) :
  ∃ x0 x1 x2 : Int, cs = [.int .u8 x0, .int .u8 x1, .int .u8 x2] ∧ d = .agg [.lit (.int .u8 x0), .lit (.int .u8 x1), .lit (.int .u8 x2)] := by
 obtain ⟨f0, f1, f2, hu, ⟨t0, o0⟩, ⟨t1, o1⟩, ⟨t2, o2⟩⟩ := strE
 obtain ⟨xs, k, hk, hxy, _, hxl, hff⟩ := DataW.trod_struct hu h
 match xs, hxl, cs, hl with
 | [y0, y1, y2], _, [v0, v1, v2], _ =>
  have g0 := hff 0 f0 rfl
  simp [o0, t0, cellsU8] at g0
  obtain ⟨x0, hx0, hy0, _⟩ := DataW.trod_int Tryz.underlying5 g0
  simp at hx0
  have g1 := hff 1 f1 rfl
  simp [o1, t1, cellsU8] at g1
  obtain ⟨x1, hx1, hy1, _⟩ := DataW.trod_int Tryz.underlying5 g1
  simp at hx1
  have g2 := hff 2 f2 rfl
  simp [o2, t2, cellsU8] at g2
  obtain ⟨x2, hx2, hy2, _⟩ := DataW.trod_int Tryz.underlying5 g2
  simp at hx2
  subst hx0 hy0
  subst hx1 hy1
  subst hx2 hy2
  simp at hxy
  exact ⟨x0, x1, x2, rfl, hxy.1⟩
theorem cellsArrH : Tryz.prog.cellsOf 140 = 161 := by kernel_rfl
theorem gH : Tryz.prog.globalNamed "fescue/shape.rows" = some 0 := by kernel_rfl
theorem gtH : (Tryz.prog.globals[0]?).map (·.type) = some 140 := by kernel_rfl
theorem laidH : (Rows.laid_fescue_shape_rows : DataW Unit) = .agg (rowsH.map fun x => .agg [.lit (.int .u8 x.typ), .lit (.int .u8 x.a), .lit (.int .u8 x.b), .lit (.int .u8 x.n), .lit (.int .i64 x.least), .lit (.int .i64 x.most), .lit (.int .i64 x.per)]) := rfl
theorem tabH {W : World} (h : laidMet Tryz.prog [("fescue/shape.rows", Rows.laid_fescue_shape_rows)] W) : TabH 0 rowsH W := by
 obtain ⟨ps, ⟨g', t', cs, fuel, pp, q', hg', ht', hvar, hd, _, _⟩, _⟩ := h
 obtain rfl := Option.some.inj (gH.symm.trans hg')
 obtain rfl := Option.some.inj (gtH.symm.trans ht')
 rw [laidH] at hd
 obtain ⟨xs, m, hm, hx, hcl, hxl, hff⟩ := DataW.trod_array Tryz.underlying140 hd
 simp only [Prod.mk.injEq, DataW.agg.injEq] at hx
 have hmap := hx.1
 intro i hi
 have hi' : i < 23 := hi
 have hix : i < xs.length := by rw [hxl]; exact hi'
 have h1 := hff i hi'
 rw [List.getElem?_eq_getElem hix, cellsH] at h1
 rw [cellsArrH] at hcl
 have hlen : ((cs.toList.drop (i * 7)).take 7).length = 7 := by rw [List.length_take, List.length_drop, hcl]; omega
 obtain ⟨x0, x1, x2, x3, x4, x5, x6, hc, hd2⟩ := openH hlen h1
 have h2 : (rowsH.map fun x => (DataW.agg [.lit (.int .u8 x.typ), .lit (.int .u8 x.a), .lit (.int .u8 x.b), .lit (.int .u8 x.n), .lit (.int .i64 x.least), .lit (.int .i64 x.most), .lit (.int .i64 x.per)] : DataW Unit))[i]? = (xs.map (·.1))[i]? := by rw [hmap]
 rw [List.getElem?_map, List.getElem?_map, List.getElem?_eq_getElem hi, List.getElem?_eq_getElem hix] at h2
 simp only [Option.map_some, Option.some.injEq] at h2
 replace h2 := h2.trans hd2
 simp only [DataW.agg.injEq, List.cons.injEq, DataW.lit.injEq, Lit.int.injEq, true_and, and_true] at h2
 have hcell : ∀ j, j < 7 → W.cell? ⟨0, i * 7 + j, none⟩ = ((cs.toList.drop (i * 7)).take 7)[j]? := fun j hj => by
  rw [World.var?_cell hg' hvar, List.getElem?_take, if_pos hj, List.getElem?_drop]
  simp
 rw [hc] at hcell
 have e0 := h2.1
 have e1 := h2.2.1
 have e2 := h2.2.2.1
 have e3 := h2.2.2.2.1
 have e4 := h2.2.2.2.2.1
 have e5 := h2.2.2.2.2.2.1
 have e6 := h2.2.2.2.2.2.2
 exact ⟨by rw [e0]; exact hcell 0 (by omega), by rw [e1]; exact hcell 1 (by omega), by rw [e2]; exact hcell 2 (by omega), by rw [e3]; exact hcell 3 (by omega), by rw [e4]; exact hcell 4 (by omega), by rw [e5]; exact hcell 5 (by omega), by rw [e6]; exact hcell 6 (by omega)⟩
theorem cellsArrE : Tryz.prog.cellsOf 248 = 12 := by kernel_rfl
theorem gE : Tryz.prog.globalNamed "fescue/shape.endRows" = some 1 := by kernel_rfl
theorem gtE : (Tryz.prog.globals[1]?).map (·.type) = some 248 := by kernel_rfl
theorem laidE : (Rows.laid_fescue_shape_endRows : DataW Unit) = .agg (rowsE.map fun x => .agg [.lit (.int .u8 x.a), .lit (.int .u8 x.to), .lit (.int .u8 x.els)]) := rfl
theorem tabE {W : World} (h : laidMet Tryz.prog [("fescue/shape.endRows", Rows.laid_fescue_shape_endRows)] W) : TabE 1 rowsE W := by
 obtain ⟨ps, ⟨g', t', cs, fuel, pp, q', hg', ht', hvar, hd, _, _⟩, _⟩ := h
 obtain rfl := Option.some.inj (gE.symm.trans hg')
 obtain rfl := Option.some.inj (gtE.symm.trans ht')
 rw [laidE] at hd
 obtain ⟨xs, m, hm, hx, hcl, hxl, hff⟩ := DataW.trod_array Tryz.underlying248 hd
 simp only [Prod.mk.injEq, DataW.agg.injEq] at hx
 have hmap := hx.1
 intro i hi
 have hi' : i < 4 := hi
 have hix : i < xs.length := by rw [hxl]; exact hi'
 have h1 := hff i hi'
 rw [List.getElem?_eq_getElem hix, cellsE] at h1
 rw [cellsArrE] at hcl
 have hlen : ((cs.toList.drop (i * 3)).take 3).length = 3 := by rw [List.length_take, List.length_drop, hcl]; omega
 obtain ⟨x0, x1, x2, hc, hd2⟩ := openE hlen h1
 have h2 : (rowsE.map fun x => (DataW.agg [.lit (.int .u8 x.a), .lit (.int .u8 x.to), .lit (.int .u8 x.els)] : DataW Unit))[i]? = (xs.map (·.1))[i]? := by rw [hmap]
 rw [List.getElem?_map, List.getElem?_map, List.getElem?_eq_getElem hi, List.getElem?_eq_getElem hix] at h2
 simp only [Option.map_some, Option.some.injEq] at h2
 replace h2 := h2.trans hd2
 simp only [DataW.agg.injEq, List.cons.injEq, DataW.lit.injEq, Lit.int.injEq, true_and, and_true] at h2
 have hcell : ∀ j, j < 3 → W.cell? ⟨1, i * 3 + j, none⟩ = ((cs.toList.drop (i * 3)).take 3)[j]? := fun j hj => by
  rw [World.var?_cell hg' hvar, List.getElem?_take, if_pos hj, List.getElem?_drop]
  simp
 rw [hc] at hcell
 have e0 := h2.1
 have e1 := h2.2.1
 have e2 := h2.2.2
 exact ⟨by rw [e0]; exact hcell 0 (by omega), by rw [e1]; exact hcell 1 (by omega), by rw [e2]; exact hcell 2 (by omega)⟩
end Go.Proofs.YtpejpnffcepdlaaGreatDoor.ShTab
