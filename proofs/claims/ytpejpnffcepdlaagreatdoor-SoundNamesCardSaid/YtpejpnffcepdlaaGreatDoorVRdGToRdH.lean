/- General: cells of a block, later; slices behind their first elements as run equations; blocks stored into whole. Numbers in a block of their own: kept where other blocks are written; behind the first ones. -/
import Derived.Test.YtpejpnffcepdlaaGreatDoorVLxKToLxL
import Derived.Test.YtpejpnffcepdlaaGreatDoorVRwH
import Derived.Test.YtpejpnffcepdlaaGreatDoorVIntOToSwXd
import Derived.SliceStrings
namespace Go.Proofs.YtpejpnffcepdlaaGreatDoor.RdB
open Go.RowKit Go.Lib TyM TyP ShM ShP ShB IntO SetP LxM LxJ RwO Aft

theorem cells_of {W:World} {b:Nat} {cs:Array Value} {ty:TypeId} (h:W.heap[b]?=some (.cells cs ty (0,0))) (i:Nat) (v:Value) (hv:cs[i]?=some v):W.cell? ⟨b,i,none⟩=some v:=by
 unfold World.cell?;rw [h];exact hv
theorem list_drop {ts:TypeId} (hts:Tryz.prog.underlying ts=some (.slice (Tryz.prog.elem ts))) (hsz:∀ w:World,(sizeOf (Tryz.prog.elem ts)).run Tryz.prog w=.ok 1 w) {w:World} {ao:Option Addr} {n cap:Nat} {l:List Value} (h:LxP.ListAt w (.slice ao n cap) l) {k:Nat} (hk:k≤l.length) :
  ∃ v,LxP.ListAt w v (l.drop k)∧(∀ wx:World,(Instr.slice ts (.slice ao n cap) (some (.int .i64 (k:Int))) none none).run Tryz.prog wx=.ok v wx):=by
 have hn:=h.len
 subst hn
 have hcap:=h.cap
 obtain ⟨ao2,cap2,he,hl,hm,hz,hc⟩:=h
 cases he
 refine ⟨sliced ao k l.length cap 1,?_,fun wx=>?_⟩
 ·unfold sliced
  by_cases hcx:cap=k
  ·rw [if_pos hcx]
   have:l.drop k=[]:=List.drop_eq_nil_of_le (by omega)
   rw [this]
   exact ⟨ao,cap - k,by simp;omega,by simp,(fun h=>by simp at h),(fun h=>by have:=hz h;omega),by simp⟩
  ·rw [if_neg hcx]
   by_cases h0:0 < l.length
   ·obtain ⟨b,off,rfl,hb,hx⟩:=hm h0
    refine ⟨some ⟨b,off+k,none⟩,cap - k,by simp [Addr.add],by simp;omega,fun _=>⟨b,off+k,rfl,hb,fun i hi=>?_⟩,(fun h=>by cases h),by simp;omega⟩
    have hi' : k+i < l.length:=by simp at hi;omega
    rw [List.getElem_drop,show off+k+i=off+(k+i) by omega]
    exact hx _ hi'
   ·obtain rfl:l=[]:=List.eq_nil_of_length_eq_zero (by omega)
    have hk0:k=0:=by simpa using hk
    subst hk0
    cases ao with
    | none=>exact ⟨none,cap,by simp,by simp,(fun h=>by simp at h),hz,by simp⟩
    | some a=>exact ⟨some (a.add 0),cap,by simp,by simp,(fun h=>by simp at h),(fun h=>by cases h),by simp⟩
 ·rw [run_slice_l (P:=Tryz.prog) (w:=wx) ts ao l.length cap hts .i64 k (by omega) (by omega),hsz]
  simp [Result.andThen]
theorem sizeStr (w:World):(sizeOf (Tryz.prog.elem 158)).run Tryz.prog w=.ok 1 w:=by kernel_rfl
theorem strs_drop {w:World} {ao:Option Addr} {n cap:Nat} {l:List ByteArray} (h:LxP.StrsAt w (.slice ao n cap) l) {k:Nat} (hk:k≤l.length):∃ v,LxP.StrsAt w v (l.drop k)∧(∀ wx:World,(Instr.slice 158 (.slice ao n cap) (some (.int .i64 (k:Int))) none none).run Tryz.prog wx=.ok v wx):=by
 obtain ⟨v,h1,h2⟩:=list_drop (ts:=158) (by kernel_rfl) sizeStr h (k:=k) (by simpa using hk)
 exact ⟨v,by unfold LxP.StrsAt LxP.strs;rw [List.map_drop];exact h1,h2⟩
theorem word_at {w:World} {ao:Option Addr} {n cap:Nat} {l:List ByteArray} (h:LxP.StrsAt w (.slice ao n cap) l) (k:Nat) (hk:k < l.length):∃ b off,ao=some ⟨b,off,none⟩∧w.cell? ⟨b,off+k,none⟩=some (.string (l.getD k ⟨#[]⟩)):=by
 obtain ⟨b,off,h1,_,h2⟩:=h.at k hk
 exact ⟨b,off,h1,by rw [List.getD_eq_getElem?_getD,List.getElem?_eq_getElem hk];exact h2⟩

theorem str_eq (s:ByteArray) (l:List UInt8):(s.toList == l)=decide (un s=l):=by
 rw [Lib.toList_data,Bool.eq_iff_iff,beq_iff_eq,decide_eq_true_iff]
theorem set2_world (w:World) (b:Nat) (t:TypeId) (x0 x1:Value) (u0 u1:Value) (h:w.heap[b]?=some (.cells #[x0,x1] t (0,0))) :
  ∃ W3,W3=((w.setCell ⟨b,0,none⟩ u0).setCell ⟨b,1,none⟩ u1)∧(∀ k,k≠b→W3.heap[k]?=w.heap[k]?)∧W3.heap[b]?=some (.cells #[u0,u1] t (0,0))∧∀ B a,Below B a w→B≤b→Below B a W3 :=
 ⟨_,rfl,fun k hk=>(Below.heap_setCell _ _ _ k hk).trans (Below.heap_setCell _ _ _ k hk),(ShTB.set_heap' (i:=1) u1 (ShTB.set_heap' (i:=0) u0 h)).trans (by simp),fun B a hb hB=>((hb.setCell (p:=⟨b,0,none⟩) hB u0).setCell (p:=⟨b,1,none⟩) hB u1)⟩
theorem set4_world (w:World) (b:Nat) (t:TypeId) (x0 x1 x2 x3:Value) (u0 u1 u2 u3:Value) (h:w.heap[b]?=some (.cells #[x0,x1,x2,x3] t (0,0))) :
  ∃ W3,W3=((((w.setCell ⟨b,0,none⟩ u0).setCell ⟨b,1,none⟩ u1).setCell ⟨b,2,none⟩ u2).setCell ⟨b,3,none⟩ u3)∧(∀ k,k≠b→W3.heap[k]?=w.heap[k]?)∧W3.heap[b]?=some (.cells #[u0,u1,u2,u3] t (0,0))∧∀ B a,Below B a w→B≤b→Below B a W3 :=
 ⟨_,rfl,fun k hk=>(Below.heap_setCell _ _ _ k hk).trans ((Below.heap_setCell _ _ _ k hk).trans ((Below.heap_setCell _ _ _ k hk).trans (Below.heap_setCell _ _ _ k hk))),(ShTB.set_heap' (i:=3) u3 (ShTB.set_heap' (i:=2) u2 (ShTB.set_heap' (i:=1) u1 (ShTB.set_heap' (i:=0) u0 h)))).trans (by simp),fun B a hb hB=>((((hb.setCell (p:=⟨b,0,none⟩) hB u0).setCell (p:=⟨b,1,none⟩) hB u1).setCell (p:=⟨b,2,none⟩) hB u2).setCell (p:=⟨b,3,none⟩) hB u3)⟩
theorem set5_world (w:World) (b:Nat) (t:TypeId) (x0 x1 x2 x3 x4:Value) (u0 u1 u2 u3 u4:Value) (h:w.heap[b]?=some (.cells #[x0,x1,x2,x3,x4] t (0,0))) :
  ∃ W3,W3=(((((w.setCell ⟨b,0,none⟩ u0).setCell ⟨b,1,none⟩ u1).setCell ⟨b,2,none⟩ u2).setCell ⟨b,3,none⟩ u3).setCell ⟨b,4,none⟩ u4)∧(∀ k,k≠b→W3.heap[k]?=w.heap[k]?)∧W3.heap[b]?=some (.cells #[u0,u1,u2,u3,u4] t (0,0))∧∀ B a,Below B a w→B≤b→Below B a W3 :=
 ⟨_,rfl,fun k hk=>(Below.heap_setCell _ _ _ k hk).trans ((Below.heap_setCell _ _ _ k hk).trans ((Below.heap_setCell _ _ _ k hk).trans ((Below.heap_setCell _ _ _ k hk).trans (Below.heap_setCell _ _ _ k hk)))),(ShTB.set_heap' (i:=4) u4 (ShTB.set_heap' (i:=3) u3 (ShTB.set_heap' (i:=2) u2 (ShTB.set_heap' (i:=1) u1 (ShTB.set_heap' (i:=0) u0 h))))).trans (by simp),fun B a hb hB=>(((((hb.setCell (p:=⟨b,0,none⟩) hB u0).setCell (p:=⟨b,1,none⟩) hB u1).setCell (p:=⟨b,2,none⟩) hB u2).setCell (p:=⟨b,3,none⟩) hB u3).setCell (p:=⟨b,4,none⟩) hB u4)⟩
theorem set7_world (w:World) (b:Nat) (t:TypeId) (x0 x1 x2 x3 x4 x5 x6:Value) (u0 u1 u2 u3 u4 u5 u6:Value) (h:w.heap[b]?=some (.cells #[x0,x1,x2,x3,x4,x5,x6] t (0,0))) :
  ∃ W3,W3=(((((((w.setCell ⟨b,0,none⟩ u0).setCell ⟨b,1,none⟩ u1).setCell ⟨b,2,none⟩ u2).setCell ⟨b,3,none⟩ u3).setCell ⟨b,4,none⟩ u4).setCell ⟨b,5,none⟩ u5).setCell ⟨b,6,none⟩ u6)∧(∀ k,k≠b→W3.heap[k]?=w.heap[k]?)∧W3.heap[b]?=some (.cells #[u0,u1,u2,u3,u4,u5,u6] t (0,0))∧∀ B a,Below B a w→B≤b→Below B a W3 :=
 ⟨_,rfl,fun k hk=>(Below.heap_setCell _ _ _ k hk).trans ((Below.heap_setCell _ _ _ k hk).trans ((Below.heap_setCell _ _ _ k hk).trans ((Below.heap_setCell _ _ _ k hk).trans ((Below.heap_setCell _ _ _ k hk).trans ((Below.heap_setCell _ _ _ k hk).trans (Below.heap_setCell _ _ _ k hk)))))),(ShTB.set_heap' (i:=6) u6 (ShTB.set_heap' (i:=5) u5 (ShTB.set_heap' (i:=4) u4 (ShTB.set_heap' (i:=3) u3 (ShTB.set_heap' (i:=2) u2 (ShTB.set_heap' (i:=1) u1 (ShTB.set_heap' (i:=0) u0 h))))))).trans (by simp),fun B a hb hB=>(((((((hb.setCell (p:=⟨b,0,none⟩) hB u0).setCell (p:=⟨b,1,none⟩) hB u1).setCell (p:=⟨b,2,none⟩) hB u2).setCell (p:=⟨b,3,none⟩) hB u3).setCell (p:=⟨b,4,none⟩) hB u4).setCell (p:=⟨b,5,none⟩) hB u5).setCell (p:=⟨b,6,none⟩) hB u6)⟩
end Go.Proofs.YtpejpnffcepdlaaGreatDoor.RdB
namespace Go.Proofs.YtpejpnffcepdlaaGreatDoor.RdK
open Go.RowKit Go.Lib TyM TyP ShM ShP ShB IntO SetP LxM LxJ RwO RdB Aft

def PartsAt (B:Nat) (w:World) (v:Value) (l:List Int):Prop:=IntsAt w v l∧∀ g,v.ownBlock=some g→B≤g∧∃ cs fr,w.heap[g]?=some (.cells cs 3 fr)
theorem parts_none (B:Nat) (w:World):PartsAt B w (.slice none 0 0) []:=⟨ints_none w,fun g h=>by cases h⟩
theorem PartsAt.below {B:Nat} {w w' : World} {v:Value} {l:List Int} (h:PartsAt B w v l) (hb:Below w.heap.size w w'):PartsAt B w' v l :=
 ⟨h.1.below hb,fun g hg=>by
  obtain ⟨h1,cs,fr,h2⟩:=h.2 g hg
  exact ⟨h1,cs,fr,(hb.block g (Array.getElem?_eq_some_iff.1 h2).1).trans h2⟩⟩
theorem parts_of {B C:Nat} {w:World} {v:Value} {l:List Int} (h:w.ownsRow B 3 1 v l.length (intVals l)) (hC:C≤B):PartsAt C w v l :=
 ⟨intsAt_of_owns h (own_len h),fun g hg=>⟨by have:=(h.lt g hg).1;omega,own_typed h g hg⟩⟩
theorem parts_set {B:Nat} {w W3:World} {v:Value} {l:List Int} {n:Nat} {cs:Array Value} (h:PartsAt B w v l) (hb:n < B) (hB:∀ k,k≠n→W3.heap[k]?=w.heap[k]?) (hs:w.heap.size≤W3.heap.size) (_:w.heap[n]?=some (.cells cs 43 (0,0))):PartsAt B W3 v l:=by
 obtain ⟨⟨ao,cap,rfl,hl,hm,hz,hc⟩,h2⟩:=h
 refine ⟨⟨ao,cap,rfl,hl,fun h0=>?_,hz,hc⟩,fun g hg=>?_⟩
 ·obtain ⟨b,off,rfl,hlt,hx⟩:=hm h0
  obtain ⟨h3,_⟩:=h2 b rfl
  have hne:b≠n:=by omega
  exact ⟨b,off,rfl,by omega,fun i hi=>(World.cell?_of_block (hB b hne)).trans (hx i hi)⟩
 ·obtain ⟨h3,cs2,fr,h4⟩:=h2 g hg
  exact ⟨h3,cs2,fr,(hB g (by omega)).trans h4⟩
theorem PartsAt.base {B C:Nat} {w:World} {v:Value} {l:List Int} (h:PartsAt B w v l) (hC:C≤B):PartsAt C w v l:=⟨h.1,fun g hg=>⟨by have:=(h.2 g hg).1;omega,(h.2 g hg).2⟩⟩
theorem one_of {l:List Int} (h:l.length=1):∃ t,l=[t]:=by
 match l,h with
 | [t],_=>exact ⟨t,rfl⟩
end Go.Proofs.YtpejpnffcepdlaaGreatDoor.RdK
