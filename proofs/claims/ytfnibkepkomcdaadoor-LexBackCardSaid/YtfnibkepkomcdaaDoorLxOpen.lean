/- Arguments that are lists of lines, opened out of the row's reading. -/
import Derived.Test.YtfnibkepkomcdaaDoorLxP
import Derived.ProofKit
import Derived.OpenShut
import Derived.SliceStrings
import Derived.Deep.SlicePairs
namespace Go.Proofs.YtfnibkepkomcdaaDoor.LxOpen
open Go.RowKit Go.Lib LxP Go.ChangeShapes Go.WideShapes Go.ChangeAt

theorem cellsStr : Tryd.prog.cellsOf 9 = 1 := by kernel_rfl
theorem cellsStrs : Tryd.prog.cellsOf 29 = 1 := by kernel_rfl

theorem block_lt {W : World} {b o : Nat} {u : Value} (h : W.cell? ⟨b, o, none⟩ = some u) : b < W.heap.size := World.block_lt_of_cell? W _ h

theorem open_strs_cell {H : Type} {enc : TypeId × Value → H} {W : World} {v : Value} {d : DataW H × List MemPlace} {n : Nat}
    (hf : DataW.trod enc Tryd.prog W 0 (fun _ => true) true n 29 [v] = some d) : ∃ l : List ByteArray, StrsAt W v l ∧ ∀ y ∈ l, y.size ≤ maxLen := by
  rcases open_strings Tryd.underlying29 Tryd.underlying9 cellsStr hf with ⟨hcs, _⟩ | ⟨a, l, c, ss, hcs, _, hl, hm, hz, _, hcell, hwz⟩
  · obtain rfl : v = .slice none 0 0 := by simpa using hcs
    exact ⟨[], list_none W, by simp⟩
  · obtain rfl : v = .slice (some a) l c := by simpa using hcs
    simp only [if_true] at hz
    unfold maxLen at hm
    have hlz : (ss.take l).length = l := by rw [List.length_take]; omega
    have hsl : (LxP.strs (ss.take l)).length = l := by rw [List.length_map, hlz]
    refine ⟨ss.take l, ⟨some a, c, by rw [hsl], by rw [List.length_map, hlz]; omega, fun h0 => ?_, (fun h => by cases h), by rw [List.length_map, hlz]; exact hl⟩, fun y hy => hwz y (List.mem_of_mem_take hy)⟩
    rw [List.length_map, hlz] at h0
    obtain ⟨b, off, spot⟩ := a
    have c0 := hcell 0 (by omega)
    have hspot : spot = none := by simpa [Addr.add] using World.cell?_spot c0
    subst hspot
    rw [Go.WideShapes.add_plain] at c0
    refine ⟨b, off, rfl, block_lt c0, fun i hi => ?_⟩
    have hi2 : i < l := by rw [List.length_map, hlz] at hi; exact hi
    have c1 := hcell i (by omega)
    rw [Go.WideShapes.add_plain] at c1
    rw [c1]
    simp [List.getD_eq_getElem?_getD, List.getElem?_eq_getElem (show i < ss.length by omega)]

theorem open_lines_at {H : Type} {enc : TypeId × Value → H} {W : World} {ao : Option Addr} {len cap : Nat} {d : DataW H} {p : List MemPlace}
    (h : DataW.Trod enc Tryd.prog W 0 (fun _ => true) true 22 (.slice ao len cap) d p) :
    ∃ l : List (List ByteArray), LinesAt W (.slice ao len cap) l ∧ l.length = len ∧ ∀ x ∈ l, ∀ y ∈ x, y.size ≤ maxLen := by
  obtain ⟨fuel, hf⟩ := h
  rcases Go.Deep.open_slice1 Tryd.underlying22 cellsStrs hf with ⟨hcs, _⟩ | ⟨a, l, c, m, n, V, D, Pl, hcs, _, hl, hm, hmm, _, hx⟩
  · simp [Value.cells] at hcs
    obtain ⟨rfl, rfl, rfl⟩ := hcs
    exact ⟨[], ⟨[], rfl, list_none W, by simp⟩, rfl, by simp⟩
  · simp [Value.cells] at hcs
    obtain ⟨rfl, rfl, rfl⟩ := hcs
    simp only [if_true] at hmm
    subst hmm
    unfold maxLen at hm
    have hw : ∀ i, i < m → ∃ x : List ByteArray, W.cell? (a.add i) = some (V i) ∧ StrsAt W (V i) x ∧ ∀ y ∈ x, y.size ≤ maxLen := by
      intro i hi
      obtain ⟨h1, h2⟩ := hx i hi
      obtain ⟨x, h3, h4⟩ := open_strs_cell h2
      exact ⟨x, h1, h3, h4⟩
    let X : Nat → List ByteArray := fun i => if h : i < m then Classical.choose (hw i h) else []
    have hX : ∀ i, i < m → W.cell? (a.add i) = some (V i) ∧ StrsAt W (V i) (X i) ∧ ∀ y ∈ X i, y.size ≤ maxLen := by
      intro i hi
      have : X i = Classical.choose (hw i hi) := by simp [X, hi]
      rw [this]; exact Classical.choose_spec (hw i hi)
    refine ⟨(List.range len).map X, ⟨(List.range len).map fun i => (X i, V i), by simp, ⟨some a, m, by simp, by simp; omega, fun h0 => ?_, (fun h => by cases h), by simp; omega⟩, fun x hx => ?_⟩, by simp, fun x hx => ?_⟩
    · simp at h0
      obtain ⟨b, off, spot⟩ := a
      obtain ⟨k0, _⟩ := hX 0 (by omega)
      have hspot : spot = none := by simpa [Addr.add] using World.cell?_spot k0
      subst hspot
      rw [Go.WideShapes.add_plain] at k0
      refine ⟨b, off, rfl, block_lt k0, fun i hi => ?_⟩
      simp at hi
      obtain ⟨c0, _⟩ := hX i (by omega)
      rw [Go.WideShapes.add_plain] at c0
      simpa using c0
    · simp at hx
      obtain ⟨i, hi, rfl⟩ := hx
      exact (hX i (by omega)).2.1
    · simp at hx
      obtain ⟨i, hi, rfl⟩ := hx
      exact (hX i (by omega)).2.2
end Go.Proofs.YtfnibkepkomcdaaDoor.LxOpen
