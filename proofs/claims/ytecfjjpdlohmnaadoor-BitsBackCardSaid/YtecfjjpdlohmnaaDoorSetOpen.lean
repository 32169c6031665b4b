/- Arguments that are sets and lists of ints, opened out of the row's reading. -/
import Derived.Test.YtecfjjpdlohmnaaDoorSetP
import Derived.ProofKit
import Derived.OpenShut
import Derived.Deep.SlicePairs
namespace Go.Proofs.YtecfjjpdlohmnaaDoor.SetOpen
open Go.RowKit Go.Lib SetP Go.ChangeShapes Go.WideShapes Go.ChangeAt

theorem cellsWd : Tryd.prog.cellsOf 34 = 2 := by kernel_rfl
theorem cellsInt : Tryd.prog.cellsOf 3 = 1 := by kernel_rfl
theorem cellsU64 : Tryd.prog.cellsOf 32 = 1 := by kernel_rfl
theorem wdShape : (match Tryd.prog.underlying 34 with
    | some (.struct fs) => fs.toList.map fun f => (f.type, f.offset)
    | _ => []) = [(3, 0), (32, 1)] := by kernel_rfl
theorem wdStruct : ∃ f0 f1 : Field, Tryd.prog.underlying 34 = some (.struct #[f0, f1]) ∧ f0.type = 3 ∧ f1.type = 32 ∧ f0.offset = 0 ∧ f1.offset = 1 := by
  have h := wdShape
  generalize Tryd.prog.underlying 34 = u at h
  cases u with
  | none => simp at h
  | some d =>
    cases d with
    | struct fs =>
      obtain ⟨l⟩ := fs
      rcases l with _ | ⟨f0, _ | ⟨f1, _ | ⟨f2, r⟩⟩⟩
      · simp at h
      · simp at h
      · simp at h
        exact ⟨f0, f1, rfl, h.1.1, h.2.1, h.1.2, h.2.2⟩
      · simp at h
    | _ => simp at h

theorem open_ints_at {H : Type} {enc : TypeId × Value → H} {W : World} {ao : Option Addr} {len cap : Nat} {d : DataW H} {p : List MemPlace}
    (h : DataW.Trod enc Tryd.prog W 0 (fun _ => true) true 27 (.slice ao len cap) d p) :
    ∃ l : List Int, IntsAt W (.slice ao len cap) l ∧ l.length = len ∧ ∀ n ∈ l, -9223372036854775808 ≤ n ∧ n ≤ 9223372036854775807 := by
  obtain ⟨fuel, hf⟩ := h
  rcases open_ints Tryd.underlying27 Tryd.underlying3 cellsInt hf with ⟨hcs, _⟩ | ⟨a, l, c, zs, hcs, _, hl, hm, hz, _, hcell, hwz⟩
  · simp [Value.cells] at hcs
    obtain ⟨rfl, rfl, rfl⟩ := hcs
    exact ⟨[], ⟨none, 0, rfl, by simp, fun h => by simp at h, fun _ => rfl⟩, rfl, by simp⟩
  · simp [Value.cells] at hcs
    obtain ⟨rfl, rfl, rfl⟩ := hcs
    simp only [if_true] at hz
    unfold maxLen at hm
    have hlz : (zs.take len).length = len := by rw [List.length_take]; omega
    refine ⟨zs.take len, ⟨some a, cap, by rw [hlz], by omega, fun h0 => ?_, fun h => by cases h⟩, hlz, fun n hn => ?_⟩
    · obtain ⟨b, off, rfl, hc⟩ := ints_at hcell (by omega)
      refine ⟨b, off, rfl, ?_, fun i hi => ?_⟩
      · have := hc 0 (by omega)
        unfold World.cell? at this
        by_cases hlt : b < W.heap.size
        · exact hlt
        · rw [Array.getElem?_eq_none (by simpa using hlt)] at this; cases this
      · rw [hc i (by omega)]
        simp [List.getD_eq_getElem?_getD, List.getElem?_eq_getElem (show i < zs.length by omega)]
    · have := hwz n (List.mem_of_mem_take hn)
      simpa [Lit.wf, IntKind.min, IntKind.max, IntKind.signed, IntKind.bits] using this

theorem open_set_at {H : Type} {enc : TypeId × Value → H} {W : World} {ao : Option Addr} {len cap : Nat} {d : DataW H} {p : List MemPlace}
    (h : DataW.Trod enc Tryd.prog W 0 (fun _ => true) true 23 (.slice ao len cap) d p) :
    ∃ s : List Wd, SetAt W (.slice ao len cap) s ∧ s.length = len ∧ ∀ x ∈ s, WdOk x := by
  obtain ⟨fuel, hf⟩ := h
  obtain ⟨f0, f1, hu, t0, t1, o0, o1⟩ := wdStruct
  rcases Go.Deep.open_slice_pairs Tryd.underlying23 hu cellsWd o0 o1 (by rw [t0]; exact cellsInt) (by rw [t1]; exact cellsU64) hf with ⟨hcs, _⟩ | ⟨a, l, c, m, n, V0, V1, D0, D1, P0, P1, hcs, _, hl, hm, hmm, _, hx⟩
  · simp [Value.cells] at hcs
    obtain ⟨rfl, rfl, rfl⟩ := hcs
    exact ⟨[], ⟨none, 0, rfl, by simp, (fun h => by simp at h), (fun _ => rfl), by simp⟩, rfl, by simp⟩
  · simp [Value.cells] at hcs
    obtain ⟨rfl, rfl, rfl⟩ := hcs
    simp only [if_true] at hmm
    subst hmm
    unfold maxLen at hm
    have hw : ∀ i, i < m → ∃ x : Wd, V0 i = .int .i64 x.1 ∧ V1 i = .int .u64 x.2 ∧ WdOk x := by
      intro i hi
      obtain ⟨_, _, e0, e1⟩ := hx i hi
      rw [t0] at e0
      rw [t1] at e1
      obtain ⟨x, hx1, _, wx⟩ := DataW.trod_int Tryd.underlying3 e0
      obtain ⟨y, hy1, _, wy⟩ := DataW.trod_int Tryd.underlying32 e1
      simp at hx1 hy1
      refine ⟨(x, y), hx1, hy1, ?_⟩
      simp [Lit.wf, IntKind.min, IntKind.max, IntKind.signed, IntKind.bits] at wx wy
      exact ⟨wx.1, wx.2, wy.1, wy.2⟩
    let X : Nat → Wd := fun i => if h : i < m then Classical.choose (hw i h) else (0, 0)
    have hX : ∀ i, i < m → V0 i = .int .i64 (X i).1 ∧ V1 i = .int .u64 (X i).2 ∧ WdOk (X i) := by
      intro i hi
      have : X i = Classical.choose (hw i hi) := by simp [X, hi]
      rw [this]; exact Classical.choose_spec (hw i hi)
    refine ⟨(List.range len).map X, ⟨some a, m, by simp, by simp; omega, fun h0 => ?_, (fun h => by cases h), by simp; omega⟩, by simp, fun x hxm => ?_⟩
    · simp at h0
      obtain ⟨b, off, spot⟩ := a
      have hspot : spot = none := by simpa [Addr.add] using World.cell?_spot (hx 0 (by omega)).1
      subst hspot
      refine ⟨b, off, rfl, ?_, fun i hi => ?_⟩
      · have := (hx 0 (by omega)).1
        rw [Go.WideShapes.add_plain] at this
        unfold World.cell? at this
        by_cases hlt : b < W.heap.size
        · exact hlt
        · rw [Array.getElem?_eq_none (by simpa using hlt)] at this; cases this
      · simp at hi
        obtain ⟨c0, c1, _, _⟩ := hx i (by omega)
        rw [Go.WideShapes.add_plain] at c0 c1
        obtain ⟨e0, e1, _⟩ := hX i (by omega)
        rw [e0] at c0
        rw [e1] at c1
        simp only [List.getElem_map, List.getElem_range]
        exact ⟨c0, c1⟩
    · simp at hxm
      obtain ⟨i, hi, rfl⟩ := hxm
      exact (hX i (by omega)).2.2
end Go.Proofs.YtecfjjpdlohmnaaDoor.SetOpen
