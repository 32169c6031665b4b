/- Arguments that are tables of types, opened out of the row's reading. -/
import Derived.Test.YtpejpnffcepdlaaGreatDoorZIntOToSwXd
import Derived.ProofKit
import Derived.OpenShut
import Derived.Deep.SlicePairs
namespace Go.Proofs.YtpejpnffcepdlaaGreatDoor.TyOpen
open Go.RowKit Go.Lib SetP TyM TyP Go.ChangeShapes Go.WideShapes Go.ChangeAt

theorem cellsTy : Tryz.prog.cellsOf 43 = 4 := by kernel_rfl
theorem cellsU8 : Tryz.prog.cellsOf 5 = 1 := by kernel_rfl
theorem cellsInt : Tryz.prog.cellsOf 3 = 1 := by kernel_rfl
theorem cellsInts : Tryz.prog.cellsOf 29 = 1 := by kernel_rfl
theorem tyShape : (match Tryz.prog.underlying 43 with
  | some (.struct fs) => fs.toList.map fun f => (f.type, f.offset)
  | _ => []) = [(5, 0), (3, 1), (3, 2), (29, 3)] := by kernel_rfl
theorem tyStruct : ∃ f0 f1 f2 f3 : Field, Tryz.prog.underlying 43 = some (.struct #[f0, f1, f2, f3]) ∧ (f0.type = 5 ∧ f0.offset = 0) ∧ (f1.type = 3 ∧ f1.offset = 1) ∧ (f2.type = 3 ∧ f2.offset = 2) ∧ (f3.type = 29 ∧ f3.offset = 3) := by
 have h := tyShape
 generalize Tryz.prog.underlying 43 = u at h
 cases u with
 | none => simp at h
 | some d =>
  cases d with
  | struct fs =>
   obtain ⟨l⟩ := fs
   rcases l with _ | ⟨f0, _ | ⟨f1, _ | ⟨f2, _ | ⟨f3, _ | ⟨f4, r⟩⟩⟩⟩⟩
   ·simp at h
   ·simp at h
   ·simp at h
   ·simp at h
   ·simp at h
    exact ⟨f0, f1, f2, f3, rfl, h.1, h.2.1, h.2.2.1, h.2.2.2⟩
   ·simp at h
  | _ => simp at h

theorem open_ints_cell {H : Type} {enc : TypeId × Value → H} {W : World} {v : Value} {d : DataW H × List MemPlace} {n : Nat}
  (hf : DataW.trod enc Tryz.prog W 0 (fun _ => true) true n 29 [v] = some d) :
  ∃ l : List Int, IntsAt W v l ∧ ∀ n ∈ l, -9223372036854775808 ≤ n ∧ n ≤ 9223372036854775807 := by
 rcases open_ints Tryz.underlying29 Tryz.underlying3 cellsInt hf with ⟨hcs, _⟩ | ⟨a, l, c, zs, hcs, _, hl, hm, hz, _, hcell, hwz⟩
 ·obtain rfl : v = .slice none 0 0 := by simpa using hcs
  exact ⟨[], ⟨none, 0, rfl, by simp, (fun h => by simp at h), (fun _ => rfl), by simp⟩, by simp⟩
 ·obtain rfl : v = .slice (some a) l c := by simpa using hcs
  simp only [if_true] at hz
  unfold maxLen at hm
  have hlz : (zs.take l).length = l := by rw [List.length_take]; omega
  refine ⟨zs.take l, ⟨some a, c, by rw [hlz], by omega, fun h0 => ?_, (fun h => by cases h), by omega⟩, fun n hn => ?_⟩
  ·obtain ⟨b, off, rfl, hc⟩ := ints_at hcell (by omega)
   refine ⟨b, off, rfl, ?_, fun i hi => ?_⟩
   ·have := hc 0 (by omega)
    unfold World.cell? at this
    by_cases hlt : b < W.heap.size
    ·exact hlt
    ·rw [Array.getElem?_eq_none (by simpa using hlt)] at this; cases this
   ·rw [hc i (by omega)]
    simp [List.getD_eq_getElem?_getD, List.getElem?_eq_getElem (show i < zs.length by omega)]
  ·have := hwz n (List.mem_of_mem_take hn)
   simpa [Lit.wf, IntKind.min, IntKind.max, IntKind.signed, IntKind.bits] using this

set_option maxRecDepth 100000 in
theorem open_tys_at {H : Type} {enc : TypeId × Value → H} {W : World} {ao : Option Addr} {len cap : Nat} {d : DataW H} {p : List MemPlace}
  (h : DataW.Trod enc Tryz.prog W 0 (fun _ => true) true 24 (.slice ao len cap) d p) :
  ∃ t : List Ty, TysAt W (.slice ao len cap) t ∧ t.length = len ∧ ∀ x ∈ t, TyOk x := by
 obtain ⟨fuel, hf⟩ := h
 obtain ⟨f0, f1, f2, f3, hu, ⟨t0, o0⟩, ⟨t1, o1⟩, ⟨t2, o2⟩, ⟨t3, o3⟩⟩ := tyStruct
 rcases Go.Deep.open_slice Tryz.underlying24 hf with ⟨hcs, _⟩ | ⟨a, l, c, m, n, D, Pl, hcs, _, hl, hm, hmm, _, hx⟩
 ·simp [Value.cells] at hcs
  obtain ⟨rfl, rfl, rfl⟩ := hcs
  exact ⟨[], ⟨none, 0, rfl, by simp, (fun h => by simp at h), (fun _ => rfl), by simp⟩, rfl, by simp⟩
 ·simp [Value.cells] at hcs
  obtain ⟨rfl, rfl, rfl⟩ := hcs
  simp only [if_true] at hmm
  subst hmm
  unfold maxLen at hm
  rw [cellsTy] at hx
  have hw : ∀ i, i < m → ∃ x : Ty, ∃ pv, W.cell? (a.add (i * 4)) = some (.int .u8 x.kind) ∧ W.cell? (a.add (i * 4 + 1)) = some (.int .i64 x.elem) ∧ W.cell? (a.add (i * 4 + 2)) = some (.int .i64 x.many) ∧ W.cell? (a.add (i * 4 + 3)) = some pv ∧ IntsAt W pv x.parts ∧ TyOk x := by
   intro i hi
   obtain ⟨cs', h1, h2⟩ := hx i hi
   obtain ⟨_, hlen, hcell⟩ := World.cells?_some h1
   obtain ⟨xs, k, hk, hxy, _, hxl, hff⟩ := DataW.trod_struct hu h2
   match xs, hxl, cs', hlen with
   | [y0, y1, y2, y3], _, [v0, v1, v2, v3], _ =>
    have g0 := hff 0 f0 rfl
    have g1 := hff 1 f1 rfl
    have g2 := hff 2 f2 rfl
    have g3 := hff 3 f3 rfl
    simp [o0, t0, cellsU8] at g0
    simp [o1, t1, cellsInt] at g1
    simp [o2, t2, cellsInt] at g2
    simp [o3, t3, cellsInts] at g3
    have e0 := hcell 0 (by omega)
    have e1 := hcell 1 (by omega)
    have e2 := hcell 2 (by omega)
    have e3 := hcell 3 (by omega)
    rw [Go.Deep.add_add] at e0 e1 e2 e3
    obtain ⟨x0, hx0, _, w0⟩ := DataW.trod_int Tryz.underlying5 g0
    obtain ⟨x1, hx1, _, w1⟩ := DataW.trod_int Tryz.underlying3 g1
    obtain ⟨x2, hx2, _, w2⟩ := DataW.trod_int Tryz.underlying3 g2
    obtain ⟨l3, i3, w3⟩ := open_ints_cell g3
    simp at hx0 hx1 hx2
    simp at e0 e1 e2 e3
    simp [Lit.wf, IntKind.min, IntKind.max, IntKind.signed, IntKind.bits] at w0 w1 w2
    exact ⟨⟨x0, x1, x2, l3⟩, v3, by rw [e0, hx0], by rw [e1, hx1], by rw [e2, hx2], e3, i3, ⟨w0, w1, w2, w3⟩⟩
  let X : Nat → Ty := fun i => if h : i < m then Classical.choose (hw i h) else default
  have hX : ∀ i, i < m → ∃ pv, W.cell? (a.add (i * 4)) = some (.int .u8 (X i).kind) ∧ W.cell? (a.add (i * 4 + 1)) = some (.int .i64 (X i).elem) ∧ W.cell? (a.add (i * 4 + 2)) = some (.int .i64 (X i).many) ∧ W.cell? (a.add (i * 4 + 3)) = some pv ∧ IntsAt W pv (X i).parts ∧ TyOk (X i) := by
   intro i hi
   have : X i = Classical.choose (hw i hi) := by simp [X, hi]
   rw [this]; exact Classical.choose_spec (hw i hi)
  refine ⟨(List.range len).map X, ⟨some a, m, by simp, by simp; omega, fun h0 => ?_, (fun h => by cases h), by simp; omega⟩, by simp, fun x hxm => ?_⟩
  ·simp at h0
   obtain ⟨b, off, spot⟩ := a
   obtain ⟨pv0, k0, _⟩ := hX 0 (by omega)
   have hspot : spot = none := by simpa [Addr.add] using World.cell?_spot k0
   subst hspot
   refine ⟨b, off, rfl, ?_, fun i hi => ?_⟩
   ·have := k0
    rw [Go.WideShapes.add_plain] at this
    unfold World.cell? at this
    by_cases hlt : b < W.heap.size
    ·exact hlt
    ·rw [Array.getElem?_eq_none (by simpa using hlt)] at this; cases this
   ·simp at hi
    obtain ⟨pv, c0, c1, c2, c3, ci, _⟩ := hX i (by omega)
    rw [Go.WideShapes.add_plain] at c0 c1 c2 c3
    simp only [List.getElem_map, List.getElem_range]
    exact ⟨pv, c0, c1, c2, c3, ci⟩
  ·simp at hxm
   obtain ⟨i, hi, rfl⟩ := hxm
   exact (hX i (by omega)).choose_spec.2.2.2.2.2
end Go.Proofs.YtpejpnffcepdlaaGreatDoor.TyOpen
