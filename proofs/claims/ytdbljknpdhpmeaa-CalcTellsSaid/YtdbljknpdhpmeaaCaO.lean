/- A value, as an argument. -/
import Derived.Test.YtdbljknpdhpmeaaCaK
import Derived.WalkKit
import Derived.ProofKit
import Derived.OpenShut
import Derived.Below
namespace Go.Proofs.Ytdbljknpdhpmeaa.CaO
open Go.ChangeShapes Go.WideShapes Go.ChangeAt Go.RowKit CaK

theorem agg_eq {cs : Array Value} {l : List Value} (h : (Value.agg cs).cells.toList = l) : Value.agg cs = .agg l.toArray := by
  subst h
  simp [Value.cells]
theorem cellsVal : Try.prog.cellsOf 26 = 4 := by kernel_rfl
theorem cellsU8 : Try.prog.cellsOf 5 = 1 := by kernel_rfl
theorem cellsI64 : Try.prog.cellsOf 2 = 1 := by kernel_rfl
theorem cellsInt : Try.prog.cellsOf 3 = 1 := by kernel_rfl
theorem shapeVa : (match Try.prog.underlying 26 with
    | some (.struct fs) => fs.toList.map fun f => (f.type, f.offset)
    | _ => []) = [(5, 0), (2, 1), (3, 2), (3, 3)] := by kernel_rfl
theorem strVa : ∃ f0 f1 f2 f3 : Field, Try.prog.underlying 26 = some (.struct #[f0, f1, f2, f3]) ∧ (f0.type = 5 ∧ f0.offset = 0) ∧ (f1.type = 2 ∧ f1.offset = 1) ∧ (f2.type = 3 ∧ f2.offset = 2) ∧ (f3.type = 3 ∧ f3.offset = 3) := by
  have h := shapeVa
  generalize Try.prog.underlying 26 = u at h
  cases u with
  | none => simp at h
  | some d =>
    cases d with
    | struct fs =>
      obtain ⟨l⟩ := fs
      rcases l with _ | ⟨f0, _ | ⟨f1, _ | ⟨f2, _ | ⟨f3, _ | ⟨g, r⟩⟩⟩⟩⟩
      · simp at h
      · simp at h
      · simp at h
      · simp at h
      · simp at h
        exact ⟨f0, f1, f2, f3, rfl, h.1, h.2.1, h.2.2.1, h.2.2.2⟩
      · simp at h
    | _ => simp at h
theorem u8_bd {n : Int} (h : (Lit.int .u8 n).wf = true) : 0 ≤ n ∧ n ≤ 255 := by simpa [Lit.wf, IntKind.min, IntKind.max, IntKind.signed, IntKind.bits] using h
theorem i64_bd {n : Int} (h : (Lit.int .i64 n).wf = true) : NumP.I64 n := by
  unfold NumP.I64
  simpa [Lit.wf, IntKind.min, IntKind.max, IntKind.signed, IntKind.bits] using h
set_option maxRecDepth 100000 in
theorem openVa {H : Type} {enc : TypeId × Value → H} {W : World} {cs : List Value} {d : DataW H × List MemPlace} {n : Nat} (hl : cs.length = 4) (h : DataW.trod enc Try.prog W 0 (fun _ => true) true n 26 cs = some d) :
    ∃ x : Vx, cs = [.int .u8 x.kind, .int .i64 x.n, .int .i64 x.block, .int .i64 x.at_] ∧ VxOk x := by
  obtain ⟨f0, f1, f2, f3, hu, ⟨t0, o0⟩, ⟨t1, o1⟩, ⟨t2, o2⟩, ⟨t3, o3⟩⟩ := strVa
  obtain ⟨xs, k, hk, hxy, _, hxl, hff⟩ := DataW.trod_struct hu h
  match xs, hxl, cs, hl with
  | [y0, y1, y2, y3], _, [v0, v1, v2, v3], _ =>
    have g0 := hff 0 f0 rfl
    simp [o0, t0, cellsU8] at g0
    obtain ⟨x0, hx0, _, w0⟩ := DataW.trod_int Try.underlying5 g0
    simp at hx0
    subst hx0
    have g1 := hff 1 f1 rfl
    simp [o1, t1, cellsI64] at g1
    obtain ⟨x1, hx1, _, w1⟩ := DataW.trod_int Try.underlying2 g1
    simp at hx1
    subst hx1
    have g2 := hff 2 f2 rfl
    simp [o2, t2, cellsInt] at g2
    obtain ⟨x2, hx2, _, w2⟩ := DataW.trod_int Try.underlying3 g2
    simp at hx2
    subst hx2
    have g3 := hff 3 f3 rfl
    simp [o3, t3, cellsInt] at g3
    obtain ⟨x3, hx3, _, w3⟩ := DataW.trod_int Try.underlying3 g3
    simp at hx3
    subst hx3
    exact ⟨⟨x0, x1, x2, x3⟩, rfl, u8_bd w0, i64_bd w1, i64_bd w2, i64_bd w3⟩
set_option maxRecDepth 100000 in
theorem open_val_at {H : Type} {enc : TypeId × Value → H} {W : World} {v : Value} {d : DataW H} {p : List MemPlace} (hv : ∃ base, Value.okWide Try.prog W .any base 26 v)
    (h : DataW.Trod enc Try.prog W 0 (fun _ => true) true 26 v d p) : ∃ x : Vx, v = valV x ∧ VxOk x := by
  obtain ⟨f0, f1, f2, f3, hu, _⟩ := strVa
  obtain ⟨base, hv⟩ := hv
  obtain ⟨cs, rfl, hsz⟩ := okWide_struct hu hv
  obtain ⟨fuel, hf⟩ := h
  rw [cellsVal] at hsz
  obtain ⟨x, hx, ok⟩ := openVa (cs := (Value.agg cs).cells.toList) (by simpa [Value.cells] using hsz) hf
  exact ⟨x, agg_eq hx, ok⟩
end Go.Proofs.Ytdbljknpdhpmeaa.CaO
