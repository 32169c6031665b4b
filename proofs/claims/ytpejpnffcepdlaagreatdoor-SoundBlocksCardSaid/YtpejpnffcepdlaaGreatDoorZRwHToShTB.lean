/- Blocks of memory that are stored into; rows that grow. Walk over fescueref06.TwinBlocks. -/
import Derived.Test.YtpejpnffcepdlaaGreatDoorZFwRToTyRT
import Derived.Test.YtpejpnffcepdlaaGreatDoorZShBToShW
import Derived.Test.YtpejpnffcepdlaaGreatDoorZTyBToTyTI
import Derived.Deep.Cut
namespace Go.Proofs.YtpejpnffcepdlaaGreatDoor.ShTB
open Go.RowKit Go.Lib SetP IntO TyM TyP TyB TyW TyT ShM ShP ShA ShB RwO

theorem cells_heap {w : World} {b : Nat} {cs : Array Value} {ty : TypeId} (h : w.heap[b]? = some (.cells cs ty (0, 0))) : (∀ i (h : i < cs.size), w.cell? ⟨b, i, none⟩ = some cs[i]) ∧ (∀ i, w.frozen? ⟨b, i, none⟩ = false) := by
 refine ⟨fun i hi => ?_, fun i => ?_⟩
 ·unfold World.cell?; rw [h]; simp [hi]
 ·unfold World.frozen?; rw [h]; simp
theorem set_heap' {w : World} {b i : Nat} {cs : Array Value} {t : TypeId} (u : Value) (h : w.heap[b]? = some (.cells cs t (0, 0))) : (w.setCell ⟨b, i, none⟩ u).heap[b]? = some (.cells (cs.setIfInBounds i u) t (0, 0)) := TyD.set_heap u h
theorem size_set (w : World) (a : Addr) (u : Value) : (w.setCell a u).heap.size = w.heap.size := by simp [World.setCell]
end Go.Proofs.YtpejpnffcepdlaaGreatDoor.ShTB
namespace Go.Proofs.YtpejpnffcepdlaaGreatDoor.ShTB
open Go.RowKit Go.Lib SetP IntO TyM TyP TyB TyW TyT ShM ShP ShA ShB RwO

/-- lists that are no longer than a machine holds -/
def Fine (l : List Bx) : Prop := ∀ b ∈ l, b.ins.length ≤ 50000 ∧ ∀ x ∈ b.ins, x.args.length ≤ 100000 ∧ x.frm.length ≤ 100000
end Go.Proofs.YtpejpnffcepdlaaGreatDoor.ShTB
