/- A world behind another one: what was there is as it was. Cells told of every world behind. -/
import Derived.Test.YtaegidmodenomaaDoorTyP
namespace Go.Proofs.YtaegidmodenomaaDoor.Aft
open Go.RowKit Go.Lib SetP TyP

/-- w' stands behind W -/
def Aft (W w' : World) : Prop := Below W.heap.size W w'
theorem Aft.refl (W : World) : Aft W W := Below.refl _ _
theorem Aft.go {W wp wa : World} (h : Aft W wp) (hb : Below wp.heap.size wp wa) : Aft W wa := Below.trans h (hb.mono (Below.size h))
theorem Aft.alloc {W wp : World} (h : Aft W wp) (o : Obj) : Aft W (wp.alloc o) := Below.alloc h (Below.size h) o
theorem Aft.drew {W wp : World} (h : Aft W wp) : Aft W wp.drew := Below.drew h
theorem Aft.set {W wp : World} (h : Aft W wp) {b i : Nat} (hb : W.heap.size ≤ b) (u : Value) : Aft W (wp.setCell ⟨b, i, none⟩ u) := Below.setCell h (p := ⟨b, i, none⟩) hb u
theorem Aft.size {W wp : World} (h : Aft W wp) : W.heap.size ≤ wp.heap.size := Below.size h
theorem Aft.trans {W wp wa : World} (h : Aft W wp) (k : Aft wp wa) : Aft W wa := h.go k
theorem Aft.below {W w' : World} (h : Aft W w') : Below W.heap.size W w' := h
/-- behind a world that stands behind -/
theorem Aft.out {w W w' : World} (h : Aft W w') (hb : Below w.heap.size w W) : Below w.heap.size w w' := Below.trans hb (Below.mono h (Below.size hb))
/-- a cell, in every world behind -/
theorem later {W : World} {a : Addr} {v : Value} (h : W.cell? a = some v) : ∀ w', Aft W w' → w'.cell? a = some v := fun _ hb => (Below.cell hb (World.block_lt_of_cell? W a h)).trans h
theorem later_heap {W : World} {b : Nat} {o : Obj} (h : W.heap[b]? = some o) : ∀ w', Aft W w' → w'.heap[b]? = some o := fun _ hb => (Below.block hb b (Array.getElem?_eq_some_iff.1 h).1).trans h
theorem later_cells {W : World} {b : Nat} {cs : Array Value} {ty : TypeId} {fr : Nat × Nat} (h : W.heap[b]? = some (.cells cs ty fr)) (i : Nat) (v : Value) (hi : cs[i]? = some v) : ∀ w', Aft W w' → w'.cell? ⟨b, i, none⟩ = some v :=
  later (by unfold World.cell?; rw [h]; exact hi)
end Go.Proofs.YtaegidmodenomaaDoor.Aft
