/- A struct of four cells that is answered: stored in the result's box, and read of it (api.Type). -/
import Derived.Test.YtpejpnffcepdlaaGreatDoorVTyBToTyTI
import Derived.Deep.MidRow
import Derived.WalkKit
namespace Go.Proofs.YtpejpnffcepdlaaGreatDoor.ResT
open Go.RowKit Go.Lib SetP TyP

theorem set_heap {w:World} {b i:Nat} {cs:Array Value} {t:TypeId} (u:Value) (h:w.heap[b]?=some (.cells cs t (0,0))):(w.setCell ⟨b,i,none⟩ u).heap[b]?=some (.cells (cs.setIfInBounds i u) t (0,0)):=by
 obtain ⟨hlt,hk⟩:=Array.getElem?_eq_some_iff.1 h
 show (w.heap.modify b _)[b]?=_
 rw [Array.getElem?_eq_getElem (by rw [Array.size_modify];exact hlt),Array.getElem_modify_self,hk]
 rfl
theorem set4_world (w:World) (b:Nat) (t:TypeId) (x0 x1 x2 x3:Value) (u0 u1 u2 u3:Value) (h:w.heap[b]?=some (.cells #[x0,x1,x2,x3] t (0,0))) :
  ∃ W3,W3=((((w.setCell ⟨b,0,none⟩ u0).setCell ⟨b,1,none⟩ u1).setCell ⟨b,2,none⟩ u2).setCell ⟨b,3,none⟩ u3)∧W3.heap[b]?=some (.cells #[u0,u1,u2,u3] t (0,0))∧∀ B a,Below B a w→B≤b→Below B a W3 :=
 ⟨_,rfl,(set_heap (i:=3) u3 (set_heap (i:=2) u2 (set_heap (i:=1) u1 (set_heap (i:=0) u0 h)))).trans (by simp),fun B a hb hB=>((((hb.setCell (p:=⟨b,0,none⟩) hB u0).setCell (p:=⟨b,1,none⟩) hB u1).setCell (p:=⟨b,2,none⟩) hB u2).setCell (p:=⟨b,3,none⟩) hB u3)⟩
theorem tyUnder:Tryz.prog.underlying 43=some (.struct (Tryz.prog.fieldsOf 43)):=by kernel_rfl
theorem tySize:(Tryz.prog.info? 43).map (·.size)=some 4:=by kernel_rfl
theorem load_ty {w:World} {b:Nat} {u0 u1 u2 u3:Value} {t:TypeId} {fr:Nat × Nat} (h:w.heap[b]?=some (.cells #[u0,u1,u2,u3] t fr)):(loadVar 43 ⟨b,0,none⟩).run Tryz.prog w=.ok (.agg #[u0,u1,u2,u3]) w:=by
 refine run_loadVar_mid w b 0 _ [u0,u1,u2,u3] _ ?_ tyUnder rfl tySize
 intro j v hv
 unfold World.cell?
 rw [h,Nat.zero_add]
 simpa using hv
theorem res_ty (w:World) (b:Nat) (x0 x1 x2 x3:Value) (u0 u1 u2 u3:Value) (h:w.heap[b]?=some (.cells #[x0,x1,x2,x3] 43 (0,0))) :
  ∃ W3,W3=((((w.setCell ⟨b,0,none⟩ u0).setCell ⟨b,1,none⟩ u1).setCell ⟨b,2,none⟩ u2).setCell ⟨b,3,none⟩ u3)∧(∀ B a,Below B a w→B≤b→Below B a W3)∧(loadVar 43 ⟨b,0,none⟩).run Tryz.prog W3=.ok (.agg #[u0,u1,u2,u3]) W3:=by
 obtain ⟨W3,h1,h2,h3⟩:=set4_world w b _ x0 x1 x2 x3 u0 u1 u2 u3 h
 exact ⟨W3,h1,h3,load_ty h2⟩
theorem res_tyD (w:World) (b:Nat) (x0 x1 x2 x3:Value) (u0 u1 u2 u3:Value) (h:w.heap[b]?=some (.cells #[x0,x1,x2,x3] 43 (0,0))) :
  ∃ W3,W3=((((w.setCell ⟨b,0,none⟩ u0).setCell ⟨b,1,none⟩ u1).setCell ⟨b,2,none⟩ u2).setCell ⟨b,3,none⟩ u3).drew∧(∀ B a,Below B a w→B≤b→Below B a W3)∧(loadVar 43 ⟨b,0,none⟩).run Tryz.prog W3=.ok (.agg #[u0,u1,u2,u3]) W3:=by
 obtain ⟨W3,h1,h2,h3⟩:=set4_world w b _ x0 x1 x2 x3 u0 u1 u2 u3 h
 exact ⟨W3.drew,by rw [h1],fun B a hb hB=>(h3 B a hb hB).drew,load_ty (w:=W3.drew) h2⟩
theorem results_cell {fn:Func} {p:Tmp} {ty:TypeId} (h:fn.results=#[.cell p ty]) (tmps:Array Value) (P:Program) (w:World) :
  (results fn tmps).run P w=((asAddr (tmps.getD p undef)).run P w).andThen fun a w₁=>(loadVar ty a).run P w₁:=by
 simp only [results,h]
 simp [Sem.run_bind,Result.andThen]
theorem cells_heap {w:World} {b:Nat} {cs:Array Value} {ty:TypeId} (h:w.heap[b]?=some (.cells cs ty (0,0))):(∀ (i:Nat) (v:Value),cs[i]?=some v→w.cell? ⟨b,i,none⟩=some v)∧∀ i,w.frozen? ⟨b,i,none⟩=false:=by
 refine ⟨fun i v hv=>?_,fun i=>?_⟩
 ·unfold World.cell?;rw [h];exact hv
 ·unfold World.frozen?;rw [h];simp
end Go.Proofs.YtpejpnffcepdlaaGreatDoor.ResT
