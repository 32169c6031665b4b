/- Tables of types that a call owns. -/
import Derived.Test.YtpejpnffcepdlaaGreatDoorVIntOToSwXd
import Derived.RangeFuncBox
import Derived.Laws.OwnMore
namespace Go.Proofs.YtpejpnffcepdlaaGreatDoor.TyW
open Go.RowKit Go.Lib SetP IntO TyM TyP

abbrev Row:=Ty × Value
def rowVals (r:List Row):List Value:=r.flatMap fun x=>[.int .u8 x.1.kind,.int .i64 x.1.elem,.int .i64 x.1.many,x.2]
theorem rowVals_length:∀ (r:List Row),(rowVals r).length=r.length * 4
 | []=>rfl
 | x :: r=>by
  have:=rowVals_length r
  simp only [rowVals,List.flatMap_cons,List.length_append,List.length_cons,List.length_nil] at this ⊢
  omega
theorem rowVals_at:∀ (r:List Row) (i:Nat) (h:i < r.length),(rowVals r)[i * 4]?=some (.int .u8 r[i].1.kind)∧(rowVals r)[i * 4+1]?=some (.int .i64 r[i].1.elem)∧(rowVals r)[i * 4+2]?=some (.int .i64 r[i].1.many)∧(rowVals r)[i * 4+3]?=some r[i].2
 | x :: r,0,_=>by simp [rowVals]
 | x :: r,i+1,h=>by
  have ih:=rowVals_at r i (by simpa using h)
  have e:rowVals (x :: r)=.int .u8 x.1.kind :: .int .i64 x.1.elem :: .int .i64 x.1.many :: x.2 :: rowVals r:=by simp [rowVals]
  rw [e,show (i+1) * 4=i * 4+1+1+1+1 by omega]
  simpa using ih
def OwnT (B:Nat) (v:Value) (r:List Row) (w:World):Prop :=
 w.ownsRow B 43 4 v r.length (rowVals r)∧∀ x∈r,w.ownsRow B 3 1 x.2 x.1.parts.length (intVals x.1.parts)
theorem OwnT.below {B:Nat} {v:Value} {r:List Row} {w w' : World} (h:OwnT B v r w) (hb:Below w.heap.size w w'):OwnT B v r w':=⟨ownsRow_below h.1 hb,fun x hx=>ownsRow_below (h.2 x hx) hb⟩
theorem OwnT.base {B C:Nat} {v:Value} {r:List Row} {w:World} (h:OwnT B v r w) (hb:C≤B):OwnT C v r w:=⟨owns_base h.1 hb,fun x hx=>owns_base (h.2 x hx) hb⟩
theorem row_cells {w:World} {B:Nat} {ty:TypeId} {size n:Nat} {v:Value} {xs:List Value} (h:w.ownsRow B ty size v n xs) (hx:0 < xs.length):∃ g cap,v=.slice (some ⟨g,0,none⟩) n cap∧B≤g∧g < w.heap.size∧n≤cap∧∀ j u,xs[j]?=some u→w.cell? ⟨g,j,none⟩=some u:=by
 rcases h.2 with ⟨_,h0⟩ | ⟨g,cap,cur,rfl,hg,hb,hn,hm,hs,ht⟩
 ·have:=h.1;rw [h0] at this;omega
 ·refine ⟨g,cap,rfl,hg,(Array.getElem?_eq_some_iff.1 hb).1,hn,fun j u hj=>?_⟩
  unfold World.cell?
  rw [hb]
  have hj2:=hj
  rw [← ht,List.getElem?_take,if_pos (by have:=(List.getElem?_eq_some_iff.1 hj).1;have:=h.1;omega)] at hj2
  simpa using hj2
theorem OwnT.tys {B:Nat} {v:Value} {r:List Row} {w:World} (h:OwnT B v r w) (hr:r.length≤100000) (hp:∀ x∈r,x.1.parts.length≤100000):TysAt w v (r.map Prod.fst):=by
 by_cases h0:0 < r.length
 ·obtain ⟨g,cap,rfl,hg,hlt,hn,hc⟩:=row_cells h.1 (by rw [rowVals_length];omega)
  refine ⟨some ⟨g,0,none⟩,cap,by simp,by simp;omega,fun _=>⟨g,0,rfl,hlt,fun i hi=>?_⟩,(fun e=>by cases e),by simpa using hn⟩
  have hi' : i < r.length:=by simpa using hi
  obtain ⟨e0,e1,e2,e3⟩:=rowVals_at r i hi'
  rw [List.getElem_map]
  rw [Nat.zero_add]
  exact ⟨r[i].2,hc _ _ e0,hc _ _ e1,hc _ _ e2,hc _ _ e3,intsAt_of_owns (h.2 _ (List.getElem_mem hi')) (by have:=hp _ (List.getElem_mem hi');omega)⟩
 ·obtain rfl:r=[]:=List.eq_nil_of_length_eq_zero (by omega)
  rcases h.1.2 with ⟨rfl,_⟩ | ⟨g,cap,cur,rfl,hg,hb,hn,hm,hs,ht⟩
  ·exact ⟨none,0,rfl,by simp,(fun h=>by simp at h),(fun _=>rfl),by simp⟩
  ·exact ⟨some ⟨g,0,none⟩,cap,rfl,by simp,(fun h=>by simp at h),(fun e=>by cases e),by simp⟩

theorem own_ne {w:World} {B C:Nat} {e f:TypeId} {s1 s2 n m g c:Nat} {v:Value} {xs ys:List Value} (h:w.ownsRow B e s1 v n xs) (k:w.ownsRow C f s2 (.slice (some ⟨g,0,none⟩) m c) m ys) (hef:e≠f):v.ownBlock≠some g:=by
 intro hg
 rcases h.2 with ⟨rfl,_⟩ | ⟨g1,_,_,rfl,_,h1,_⟩
 ·cases hg
 ·obtain rfl:g1=g:=by simpa [Value.ownBlock] using hg
  rcases k.2 with ⟨hh,_⟩ | ⟨g2,_,_,hh,_,h2,_⟩
  ·cases hh
  ·cases hh
   rw [h1] at h2
   simp at h2
   exact hef h2.2
theorem map_set {r:List Row} {k:Nat} (h:k < r.length) (v:Value):(r.set k (r[k].1,v)).map Prod.fst=r.map Prod.fst:=by
 apply List.ext_getElem (by simp)
 intro i h1 h2
 simp only [List.getElem_map,List.getElem_set]
 split
 ·rename_i e;subst e;rfl
 ·rfl
end Go.Proofs.YtpejpnffcepdlaaGreatDoor.TyW
