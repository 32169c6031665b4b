/- Blocks of memory that are stored into; rows that grow. -/
import Derived.Test.YtpejpnffcepdlaaGreatDoorVFwRToRwO
import Derived.Test.YtpejpnffcepdlaaGreatDoorVShBToShW
import Derived.Test.YtpejpnffcepdlaaGreatDoorVTyBToTyTI
import Derived.Deep.Cut
namespace Go.Proofs.YtpejpnffcepdlaaGreatDoor.ShTB
open Go.RowKit Go.Lib SetP IntO TyM TyP TyB TyW TyT ShM ShP ShA ShB RwO

theorem cells_heap {w:World} {b:Nat} {cs:Array Value} {ty:TypeId} (h:w.heap[b]?=some (.cells cs ty (0,0))):(∀ i (h:i < cs.size),w.cell? ⟨b,i,none⟩=some cs[i])∧(∀ i,w.frozen? ⟨b,i,none⟩=false):=by
 refine ⟨fun i hi=>?_,fun i=>?_⟩
 ·unfold World.cell?;rw [h];simp [hi]
 ·unfold World.frozen?;rw [h];simp
theorem set_heap' {w:World} {b i:Nat} {cs:Array Value} {t:TypeId} (u:Value) (h:w.heap[b]?=some (.cells cs t (0,0))):(w.setCell ⟨b,i,none⟩ u).heap[b]?=some (.cells (cs.setIfInBounds i u) t (0,0)):=TyD.set_heap u h
theorem size_set (w:World) (a:Addr) (u:Value):(w.setCell a u).heap.size=w.heap.size:=by simp [World.setCell]
theorem grown_set (w:World) (b i:Nat) (u:Value):w.grownBy (w.setCell ⟨b,i,none⟩ u) (some b):=⟨rfl,rfl,rfl,(by simp [World.setCell]),fun j hj hne=>Below.heap_setCell _ _ _ j (fun e=>hne (by rw [e]))⟩
theorem typed_at {w:World} {b:Nat} {cs:Array Value} {ty:TypeId} {fr:Nat × Nat} (h:w.heap[b]?=some (.cells cs ty fr)):∀ g,some b=some g→∃ cs fr,w.heap[g]?=some (.cells cs ty fr):=fun g hg=>by cases hg;exact ⟨_,_,h⟩

theorem ins_step {B nb:Nat} {w4 w5:World} {vi v5:Value} {rows:List Ir} {y:Ir} {cs:Array Value} (ho:OwnIns B w4 vi rows) (hy:OwnIr B w4 y) (h5:w5.ownsRow B 31 7 v5 (rows.length+1) (rowOf irV rows++rowOf irV [y])) (hgr:w4.grownBy w5 vi.ownBlock) (hnb:w4.heap[nb]?=some (.cells cs 38 (0,0))) :
  OwnIns B (w5.setCell ⟨nb,0,none⟩ v5) v5 (rows++[y])∧w5.heap[nb]?=some (.cells cs 38 (0,0))∧(w5.setCell ⟨nb,0,none⟩ v5).heap[nb]?=some (.cells (cs.setIfInBounds 0 v5) 38 (0,0)):=by
 have hne:vi.ownBlock≠some nb:=fun e=>by
  obtain ⟨cs2,fr2,h2⟩:=own_typed ho.1 nb e
  rw [hnb] at h2
  simp at h2
 have hlt:=(Array.getElem?_eq_some_iff.1 hnb).1
 have hb5:w5.heap[nb]?=some (.cells cs 38 (0,0)):=(hgr.block nb hlt (fun e=>hne e.symm)).trans hnb
 have hg:=grown_set w5 nb 0 v5
 refine ⟨⟨?_,fun z hz=>?_⟩,hb5,set_heap' (i:=0) v5 hb5⟩
 ·rw [List.length_append,rowOf_append]
  exact owns_other h5 hg (typed_at hb5) (by decide)
 ·rcases List.mem_append.1 hz with hz | hz
  ·exact ((ho.2 z hz).other hgr (own_typed ho.1) (by decide)).other hg (typed_at hb5) (by decide)
  ·rw [List.mem_singleton.1 hz]
   exact (hy.other hgr (own_typed ho.1) (by decide)).other hg (typed_at hb5) (by decide)

theorem blks_step {B:Nat} {w4 w5:World} {v0 v5:Value} {r:List Br} {y:Br} (ho:OwnBlks B w4 v0 r) (hy:OwnIns B w4 y.vi y.rows) (h5:w5.ownsRow B 38 5 v5 (r.length+1) (rowOf brV r++rowOf brV [y])) (hgr:w4.grownBy w5 v0.ownBlock):OwnBlks B w5 v5 (r++[y]):=by
 refine ⟨?_,fun z hz=>?_⟩
 ·rw [List.length_append,rowOf_append];exact h5
 ·rcases List.mem_append.1 hz with hz | hz
  ·exact (ho.2 z hz).other hgr (own_typed ho.1) (by decide) (by decide)
  ·rw [List.mem_singleton.1 hz]
   exact hy.other hgr (own_typed ho.1) (by decide) (by decide)
end Go.Proofs.YtpejpnffcepdlaaGreatDoor.ShTB
