/- Blocks of memory that are stored into; rows that grow. Walk over fescueref06.TwinBlocks. -/
import Derived.Test.YtpejpnffcepdlaaGreatDoorYFwRToTyRT
import Derived.Test.YtpejpnffcepdlaaGreatDoorYShBToShW
import Derived.Test.YtpejpnffcepdlaaGreatDoorYTyBToTyTI
import Derived.Deep.Cut
set_option maxRecDepth 100000
set_option maxHeartbeats 16000000
namespace Go.Proofs.YtpejpnffcepdlaaGreatDoor.ShTB
open Go.RowKit Go.Lib SetP IntO TyM TyP TyB TyW TyT ShM ShP ShA ShB RwO

theorem cells_heap {w:World} {b:Nat} {cs:Array Value} {ty:TypeId} (h:w.heap[b]?=some (.cells cs ty (0,0))):(∀ i (h:i < cs.size),w.cell? ⟨b,i,none⟩=some cs[i])∧(∀ i,w.frozen? ⟨b,i,none⟩=false):=by
 refine ⟨fun i hi=>?_,fun i=>?_⟩
 ·unfold World.cell?;rw [h];simp [hi]
 ·unfold World.frozen?;rw [h];simp
theorem set_heap' {w:World} {b i:Nat} {cs:Array Value} {t:TypeId} (u:Value) (h:w.heap[b]?=some (.cells cs t (0,0))):(w.setCell ⟨b,i,none⟩ u).heap[b]?=some (.cells (cs.setIfInBounds i u) t (0,0)):=TyD.set_heap u h
theorem size_set (w:World) (a:Addr) (u:Value):(w.setCell a u).heap.size=w.heap.size:=by simp [World.setCell]
theorem grown_set (w:World) (b i:Nat) (u:Value):w.grownBy (w.setCell ⟨b,i,none⟩ u) (some b):=⟨rfl,rfl,rfl,(by simp [World.setCell]),fun j hj hne=>Below.heap_setCell _ _ _ j (fun e=>hne (by rw [e]))⟩
theorem typed_at {w:World} {b:Nat} {cs:Array Value} {ty:TypeId} {fr:Nat × Nat} (h:w.heap[b]?=some (.cells cs ty fr)):∀ g,some b=some g→∃ cs fr,w.heap[g]?=some (.cells cs ty fr):=fun g hg=>by cases hg;exact ⟨_,_,h⟩

theorem ownsRow_under {w w' : World} {B b0 size n:Nat} {e:TypeId} {v:Value} {xs:List Value} (h:w.ownsRow b0 e size v n xs) (hk:∀ k,v.ownBlock=some k→k < B) (hb:Below B w w'):w'.ownsRow b0 e size v n xs:=by
 obtain ⟨h1,h2⟩:=h
 refine ⟨h1,?_⟩
 rcases h2 with h2 | ⟨g,cap,cur,hv,hg,hh,r⟩
 ·exact .inl h2
 ·exact .inr ⟨g,cap,cur,hv,hg,(hb.block g (hk g (by rw [hv];rfl))).trans hh,r⟩
theorem own_at {w:World} {B s n m:Nat} {e:TypeId} {v:Value} {l:List Int} (h:w.ownsRow B e s v n (intVals l)) (hs:s=1) (hm:l.length=m):w.ownsRow B e s v m (intVals l):=by
 have h1:=h.1
 rw [intVals_length,hs,Nat.mul_one] at h1
 rw [← hm,h1];exact h
theorem ins_step {B nb:Nat} {w4 w5:World} {vi v5:Value} {rows:List Ir} {y:Ir} {cs:Array Value} (ho:OwnIns B w4 vi rows) (hy:OwnIr B w4 y) (h5:w5.ownsRow B 31 7 v5 (rows.length+1) (rowOf irV rows++rowOf irV [y])) (hgr:w4.grownBy w5 vi.ownBlock) (hnb:w4.heap[nb]?=some (.cells cs 38 (0,0))) :
  OwnIns B (w5.setCell ⟨nb,0,none⟩ v5) v5 (rows++[y])∧w5.heap[nb]?=some (.cells cs 38 (0,0))∧(w5.setCell ⟨nb,0,none⟩ v5).heap[nb]?=some (.cells (cs.setIfInBounds 0 v5) 38 (0,0)):=by
 have hne:vi.ownBlock≠some nb:=fun e=>by
  obtain ⟨cs2,fr2,h2⟩:=own_typed ho.1 nb e
  rw [hnb] at h2
  simp at h2
 have hlt:=(Array.getElem?_eq_some_iff.1 hnb).1
 have hb5:w5.heap[nb]?=some (.cells cs 38 (0,0)):=(hgr.block nb hlt (fun e=>hne e.symm)).trans hnb
 have hg:=grown_set w5 nb 0 v5
 refine ⟨⟨?_,fun z hz=>?_⟩,hb5,set_heap' (i:=0) v5 hb5⟩
 ·rw [List.length_append,rowOf_append]
  exact owns_other h5 hg (typed_at hb5) (by decide)
 ·rcases List.mem_append.1 hz with hz | hz
  ·exact ((ho.2 z hz).other hgr (own_typed ho.1) (by decide)).other hg (typed_at hb5) (by decide)
  ·rw [List.mem_singleton.1 hz]
   exact (hy.other hgr (own_typed ho.1) (by decide)).other hg (typed_at hb5) (by decide)

theorem blks_step {B:Nat} {w4 w5:World} {v0 v5:Value} {r:List Br} {y:Br} (ho:OwnBlks B w4 v0 r) (hy:OwnIns B w4 y.vi y.rows) (h5:w5.ownsRow B 38 5 v5 (r.length+1) (rowOf brV r++rowOf brV [y])) (hgr:w4.grownBy w5 v0.ownBlock):OwnBlks B w5 v5 (r++[y]):=by
 refine ⟨?_,fun z hz=>?_⟩
 ·rw [List.length_append,rowOf_append];exact h5
 ·rcases List.mem_append.1 hz with hz | hz
  ·exact (ho.2 z hz).other hgr (own_typed ho.1) (by decide) (by decide)
  ·rw [List.mem_singleton.1 hz]
   exact hy.other hgr (own_typed ho.1) (by decide) (by decide)
end Go.Proofs.YtpejpnffcepdlaaGreatDoor.ShTB
namespace Go.Proofs.YtpejpnffcepdlaaGreatDoor.ShTB
open Go.RowKit Go.Lib SetP IntO TyM TyP TyB TyW TyT ShM ShP ShA ShB RwO

def TwinB (l:List Bx) (w:World) (e:Ending) (w' : World):Prop:=∃ u r,e=.returned u∧r.map Br.bx=l∧OwnBlks w.heap.size w' u r∧Below w.heap.size w w'
def Fine (l:List Bx):Prop:=∀ b∈l,b.ins.length≤50000∧∀ x∈b.ins,x.args.length≤100000∧x.frm.length≤100000
def MidB (w:World) (l:List Bx) (k:Nat) (u:Value) (wr:World):Prop:=∃ r:List Br,r.map Br.bx=l.take k∧OwnBlks w.heap.size wr u r∧Below w.heap.size w wr
def MidI (wr:World) (y:Bx) (q:Nat) (wq:World):Prop:=∃ (vi:Value) (r:List Ir),r.map Ir.x=y.ins.take q∧OwnIns (wr.heap.size+1) wq vi r∧wq.heap[wr.heap.size]?=some (.cells #[vi,.int .u8 y.en.kind,.int .i64 y.en.a,.int .i64 y.en.to,.int .i64 y.en.els] 38 (0,0))∧Below wr.heap.size wr wq
theorem twinBlocks_calls (v:Value) (l:List Bx) (w:World) (hl:BlksAt w v l) (hlen:l.length≤50000) (hfine:Fine l):Calls Tryz.prog 32 #[v] w (TwinB l w):=by
 have HL:=hid hl
 have HI:=hid hfine
 obtain ⟨ao,cap,rfl,hll⟩:=hl.slice
 clear hl hfine
 go_enter Tryz.func32,Tryz.ntmps32
 go_wp2
 go_loopg [3,4] l.length (fun gk o i wr=>∃ k:Nat,k+gk=l.length∧i=.int .i64 k∧MidB w l k o wr)
 case atStart=>exact ⟨0,by omega,rfl,[],rfl,⟨World.ownsRow_nil _ _ _ _,by simp⟩,Below.refl _ _⟩
 case round =>
  obtain ⟨k,hk,rfl,hmid⟩:=hrel
  have HK:=hid hk
  have HM:=hid hmid
  obtain ⟨r,hr,hown,hbe⟩:=hmid
  by_cases hlt:k < l.length
  ·have hsz:=hbe.size
   obtain ⟨tb,off,rfl,htb,vi0,c0,c1,c2,c3,c4,hvi⟩:=(HL.out.below blkStays hbe).at k hlt
   have HPL:=hid (HI.out _ (List.getElem_mem hlt))
   have HTK:Hid (l.take (k+1)=l.take k++[l[k]]):=List.take_succ_eq_append_getElem hlt
   have HR:=hid hr
   have hrl:r.length≤50000:=by have:=congrArg List.length hr;simp at this;omega
   clear hr hk HM
   generalize l[k]=y at *
   have HVI:=hid hvi
   have HOWN:=hid hown
   have HBE:=hid hbe
   have hC0:=hid c0
   obtain ⟨ia,ic,rfl,hil⟩:=hvi.slice
   clear hvi hown hbe
   obtain ⟨wo,hwo⟩:∃ wo:World,wo=wr:=⟨wr,rfl⟩
   subst hwo
   obtain ⟨go,hgo⟩:∃ go:Nat,go=gk:=⟨gk,rfl⟩
   subst hgo
   go_wp2
   go_loopg [6] y.ins.length (fun gq i wq=>∃ q:Nat,q+gq=y.ins.length∧i=.int .i64 q∧MidI wo y q wq)
   case atStart=>exact ⟨0,by omega,rfl,.slice none 0 0,[],rfl,⟨World.ownsRow_nil _ _ _ _,by simp⟩,alloc_new _ _,alloc_below _ _⟩
   case round =>
    obtain ⟨q,hq,rfl,hmi⟩:=hrel
    have HQ:=hid hq
    have HMI:=hid hmi
    obtain ⟨vi,rows,hrows,hoi,hnb,hbq⟩:=hmi
    have hbw:=HBE.out.trans (hbq.mono hsz)
    have c0:=(hbq.cell (p:=⟨tb,off+k * 5,none⟩) htb).trans hC0.out
    have hszq:=hbq.size
    by_cases hql:q < y.ins.length
    ·obtain ⟨ib,ioff,rfl,hib,va,vf,i0,i1,i2,i3,i4,i5,i6,hva,hvf⟩:=(HVI.out.below insStays hbq).at q hql
     have hfx:=HPL.out.2 _ (List.getElem_mem hql)
     have HTQ:Hid (y.ins.take (q+1)=y.ins.take q++[y.ins[q]]):=List.take_succ_eq_append_getElem hql
     have HRW:=hid hrows
     have hrwl:rows.length≤50000:=by have:=congrArg List.length hrows;have:=HPL.out.1;simp at *;omega
     clear hrows hq HMI
     generalize y.ins[q]=x at *
     have HOI:=hid hoi
     have HBQ:=hid hbq
     have HNB:=hid hnb
     have hnlt:wo.heap.size < wr.heap.size:=(Array.getElem?_eq_some_iff.1 hnb).1
     have hbA:=(Below.refl wr.heap.size wr).alloc (Nat.le_refl _) (.cells #[.int .u8 x.op,.int .i64 x.typ,.int .i64 x.a,.int .i64 x.b,.int .i64 x.n,va,vf] 31)
     have hbB:=hbA.alloc (by simp) (.cells #[] 3)
     have ho0:=World.ownsRow_made (base:=wr.heap.size+1) (e:=3) (size:=1) (wr.alloc (.cells #[.int .u8 x.op,.int .i64 x.typ,.int .i64 x.a,.int .i64 x.b,.int .i64 x.n,va,vf] 31)) #[] 0 (by simp) (by decide) (by simp)
     rw [World.size_alloc] at ho0
     have HOWN0:=hid ho0
     have HVA:=hid (hva.below hbB)
     have HVF:=hid (fun wx (hb:Below wr.heap.size wr wx)=>hvf.below hb)
     have HCP:=hid (alloc_old (alloc_new wr (.cells #[.int .u8 x.op,.int .i64 x.typ,.int .i64 x.a,.int .i64 x.b,.int .i64 x.n,va,vf] 31)) (.cells #[] 3))
     have HB1:=hid hbB
     obtain ⟨aa,ac,rfl,_⟩:=ints_slice hva
     obtain ⟨fa,fc,rfl,_⟩:=ints_slice hvf
     have hbs:wr.heap.size+1≤((wr.alloc (.cells #[.int .u8 x.op,.int .i64 x.typ,.int .i64 x.a,.int .i64 x.b,.int .i64 x.n,.slice aa x.args.length ac,.slice fa x.frm.length fc] 31)).alloc (.cells #[] 3)).heap.size:=by simp
     clear hva hvf hoi hbq hbA hbB ho0 hnb
     go_wp2_with (at_builtin;refine wpList_clone_ints rfl (.tmp 38) (.tmp 40) rfl (wr.heap.size+1) (.slice (some ⟨wr.heap.size+1,0,none⟩) 0 0) rfl HOWN0.out (.slice aa x.args.length ac) x.args rfl HVA.out hfx.1 hbs ?_)
     intro v1 m1 w1 hv1 hb1
     obtain ⟨qa,qc,rfl⟩:=own_form hv1
     have hcp1:=(hb1.block _ (by omega)).trans HCP.out
     obtain ⟨e1,z1⟩:=cells_heap hcp1
     have d0:=e1 5 (by simp)
     have d1:=e1 6 (by simp)
     have zz:=z1 5
     simp only [List.getElem_toArray,List.getElem_cons_succ,List.getElem_cons_zero] at d0 d1
     have hbE:=HB1.out.trans (hb1.mono (by omega))
     have hg1:=grown_set w1 wr.heap.size 5 (.slice qa m1 qc)
     have hv1':=owns_other hv1 hg1 (typed_at hcp1) (by decide)
     have hbF:Below wr.heap.size wr (w1.setCell ⟨wr.heap.size,5,none⟩ (.slice qa m1 qc)):=hbE.setCell (p:=⟨wr.heap.size,5,none⟩) (Nat.le_refl _) (.slice qa m1 qc)
     have hcp2:=alloc_old (set_heap' (i:=5) (.slice qa m1 qc) hcp1) (.cells #[] 3)
     simp only [List.setIfInBounds_toArray,List.set_cons_succ,List.set_cons_zero] at hcp2
     have HCP2:=hid hcp2
     have hszF:(w1.setCell ⟨wr.heap.size,5,none⟩ (.slice qa m1 qc)).heap.size=w1.heap.size:=size_set _ _ _
     have hbG:=hbF.alloc (by rw [hszF];have:=hbE.size;omega) (.cells #[] 3)
     have HBG:=hid hbG
     have HVF2:=hid (HVF.out _ hbG)
     have ho2:=World.ownsRow_made (base:=w1.heap.size) (e:=3) (size:=1) (w1.setCell ⟨wr.heap.size,5,none⟩ (.slice qa m1 qc)) #[] 0 (by rw [hszF];exact Nat.le_refl _) (by decide) (by simp)
     rw [hszF] at ho2
     have HOWN2:=hid ho2
     have HV1:=hid (hv1'.alloc (.cells #[] 3))
     have HLT1:=hid (fun k (h:(Value.slice qa m1 qc).ownBlock=some k)=>(hv1.lt k h).2)
     have hbs2:w1.heap.size≤((w1.setCell ⟨wr.heap.size,5,none⟩ (.slice qa m1 qc)).alloc (.cells #[] 3)).heap.size:=by rw [World.size_alloc,hszF];omega
     have hlt1:wr.heap.size < w1.heap.size:=(Array.getElem?_eq_some_iff.1 hcp1).1
     clear hcp1 e1 z1 hbE hg1 hv1' hv1 hb1 hbF hbG ho2 hcp2 hszF HVF HVA HB1 HCP HOWN0
     go_upto_region 12 with (at_builtin;refine wpList_clone_ints rfl (.tmp 43) (.tmp 45) rfl w1.heap.size (.slice (some ⟨w1.heap.size,0,none⟩) 0 0) rfl HOWN2.out (.slice fa x.frm.length fc) x.frm rfl HVF2.out hfx.2 hbs2 ?_;intro v2 m2 w2 hv2 hb2;obtain ⟨qb,qd,rfl⟩:=own_form hv2;have hcp3:=(hb2.block _ hlt1).trans HCP2.out;obtain ⟨e3,z3⟩:=cells_heap hcp3;have zz6:=z3 6)
     have hszw:wr.heap.size≤w1.heap.size:=Nat.le_of_lt hlt1
     have hg2:=grown_set w2 wr.heap.size 6 (.slice qb m2 qd)
     have hw2:=own_at (owns_other hv2 hg2 (typed_at hcp3) (by decide)) rfl rfl
     have hw1:=own_at (owns_other (ownsRow_under HV1.out (HLT1.out) hb2) hg2 (typed_at hcp3) (by decide)) rfl rfl
     have hm1:m1=x.args.length:=by have:=HV1.out.1;rw [intVals_length] at this;omega
     have hm2:m2=x.frm.length:=by have:=hv2.1;rw [intVals_length] at this;omega
     have hcp4:=set_heap' (i:=6) (.slice qb m2 qd) hcp3
     simp only [List.setIfInBounds_toArray,List.set_cons_succ,List.set_cons_zero] at hcp4
     have hb3:Below wr.heap.size wr (w2.setCell ⟨wr.heap.size,6,none⟩ (.slice qb m2 qd)):=(HBG.out.trans (hb2.mono hszw)).setCell (p:=⟨wr.heap.size,6,none⟩) (Nat.le_refl _) _
     have hoi3:=HOI.out.below hb3
     have hnb3:=(hb3.block _ hnlt).trans HNB.out
     have hbq3:=HBQ.out.trans (hb3.mono hszq)
     obtain ⟨w3,hw3⟩:∃ w3,w3=w2.setCell ⟨wr.heap.size,6,none⟩ (.slice qb m2 qd):=⟨_,rfl⟩
     rw [← hw3] at hw2 hw1 hcp4 hb3 hoi3 hnb3 hbq3 ⊢
     have hsz3:wr.heap.size≤w3.heap.size:=hb3.size
     have HY:Hid (OwnIr (wo.heap.size+1) w3 ⟨x,.slice qa m1 qc,.slice qb m2 qd⟩):=⟨owns_base hw1 (by omega),owns_base hw2 (by omega)⟩
     subst hm1
     subst hm2
     have hb4:=alloc_below w3 (.cells #[.int .u8 x.op,.int .i64 x.typ,.int .i64 x.a,.int .i64 x.b,.int .i64 x.n,.slice qa x.args.length qc,.slice qb x.frm.length qd] 31)
     have HOI4:=hid (hoi3.below hb4)
     have HY4:=hid (HY.out.below hb4)
     have HNB4:=hid ((hb4.block _ (by omega)).trans hnb3)
     have HBQ4:=hid (hbq3.trans (hb4.mono (by omega)))
     obtain ⟨e4,z4⟩:=cells_heap hcp4
     have a0:=e4 0 (by simp);have a1:=e4 1 (by simp);have a2:=e4 2 (by simp);have a3:=e4 3 (by simp);have a4:=e4 4 (by simp);have a5:=e4 5 (by simp);have a6:=e4 6 (by simp)
     obtain ⟨e5,z5⟩:=cells_heap hnb3
     have b0:=e5 0 (by simp)
     simp only [List.getElem_toArray,List.getElem_cons_succ,List.getElem_cons_zero] at a0 a1 a2 a3 a4 a5 a6 b0
     have HONE:Hid (∀ z∈[(⟨x,.slice qa x.args.length qc,.slice qb x.frm.length qd⟩:Ir)],∀ u∈irV z,u.oneCell'=true):=fun z hz=>by rw [List.mem_singleton.1 hz];exact oneIr _ ⟨_,_,_,rfl⟩ ⟨_,_,_,rfl⟩
     have HCELL:Hid (0 < [(⟨x,.slice qa x.args.length qc,.slice qb x.frm.length qd⟩:Ir)].length→∃ b off,some (⟨w3.heap.size,0,none⟩:Addr)=some ⟨b,off,none⟩∧∀ j u,(rowOf irV [(⟨x,.slice qa x.args.length qc,.slice qb x.frm.length qd⟩:Ir)])[j]?=some u→(w3.alloc (.cells #[.int .u8 x.op,.int .i64 x.typ,.int .i64 x.a,.int .i64 x.b,.int .i64 x.n,.slice qa x.args.length qc,.slice qb x.frm.length qd] 31)).cell? ⟨b,off+j,none⟩=some u) :=
      fun _=>⟨_,0,rfl,fun j u hj=>by rw [Nat.zero_add];unfold World.cell?;rw [alloc_new];rw [rowOf_one] at hj;simpa [irV] using hj⟩
     have hsz4:wo.heap.size+1≤(w3.alloc (.cells #[.int .u8 x.op,.int .i64 x.typ,.int .i64 x.a,.int .i64 x.b,.int .i64 x.n,.slice qa x.args.length qc,.slice qb x.frm.length qd] 31)).heap.size:=by rw [World.size_alloc];omega
     clear HY hw1 hw2 hcp4 hb3 hoi3 hnb3 hbq3 hw3 hb4 e4 z4 e5 z5 hg2 hv2 hcp3 e3 z3 zz6 hb2 HV1 HLT1 HCP2 HBG HVF2 HOWN2 hbs2 d0 d1 zz HOI HBQ HNB
     go_wp2_with (at_builtin;refine wpList_append_row irW (by decide) infoIns Tryz.underlying36 zeroIns rfl (.tmp 49) (.tmp 51) rfl (wo.heap.size+1) vi rfl rows.length (rowOf irV rows) HOI4.out.1 (some ⟨w3.heap.size,0,none⟩) 1 1 [(⟨x,.slice qa x.args.length qc,.slice qb x.frm.length qd⟩:Ir)] rfl rfl HONE.out (fun h=>by cases h) HCELL.out (by unfold maxLen;simp;omega) (by simp;omega) hsz4 ?_)
     intro v5 w5 hown5 hgr5
     obtain ⟨ga,gc,rfl⟩:=own_form hown5
     obtain ⟨hs1,hs2,hs3⟩:=ins_step HOI4.out HY4.out hown5 hgr5 HNB4.out
     simp only [List.setIfInBounds_toArray,List.set_cons_zero] at hs3
     have hlo:=(HOI4.out.1).lt
     have hb5:=(HBQ4.out.grown hgr5 (by omega) (fun k hk=>by have:=(hlo k hk).1;omega)).setCell (p:=⟨wo.heap.size,0,none⟩) (Nat.le_refl _) (.slice ga (rows.length+1) gc)
     obtain ⟨_,z5⟩:=cells_heap hs2
     have zz0:=z5 0
     have HFIN:Hid (MidI wo y (q+1) (w5.setCell ⟨wo.heap.size,0,none⟩ (.slice ga (rows.length+1) gc))):=⟨_,_,by rw [List.map_append,HRW.out,HTQ.out];rfl,hs1,hs3,hb5⟩
     clear hs1 hs2 hs3 hlo hb5 z5 hown5 hgr5 HOI4 HY4 HNB4 HBQ4 HONE HCELL
     go_wp2
     go_roundg (gk - 1)
     case measure=>have:=HQ.out;omega
     case rel=>exact ⟨q+1,by have:=HQ.out;omega,by go_num,HFIN.out⟩
    ·obtain rfl:q=y.ins.length:=by omega
     rw [List.take_length] at hrows
     have hb4:=alloc_below wr (.cells #[vi,.int .u8 y.en.kind,.int .i64 y.en.a,.int .i64 y.en.to,.int .i64 y.en.els] 38)
     have HB4:=hid ((HOWN.out.below hbq).below hb4)
     have HI4:=hid ((hoi.base (by omega:w.heap.size≤wo.heap.size+1)).below hb4)
     have HBW4:=hid (hbw.trans (hb4.mono (by have:=hbw.size;omega)))
     have HROWS:=hid hrows
     obtain ⟨e5,z5⟩:=cells_heap hnb
     have b0:=e5 0 (by simp);have b1:=e5 1 (by simp);have b2:=e5 2 (by simp);have b3:=e5 3 (by simp);have b4:=e5 4 (by simp)
     simp only [List.getElem_toArray,List.getElem_cons_succ,List.getElem_cons_zero] at b0 b1 b2 b3 b4
     obtain ⟨va,vc,rfl⟩:=own_form hoi.1
     have HONE:Hid (∀ z∈[(⟨y.en,.slice va rows.length vc,rows⟩:Br)],∀ u∈brV z,u.oneCell'=true):=fun z hz=>by rw [List.mem_singleton.1 hz];exact oneBr _ ⟨_,_,_,rfl⟩
     have HCELL:Hid (0 < [(⟨y.en,.slice va rows.length vc,rows⟩:Br)].length→∃ b off,some (⟨wr.heap.size,0,none⟩:Addr)=some ⟨b,off,none⟩∧∀ j u,(rowOf brV [(⟨y.en,.slice va rows.length vc,rows⟩:Br)])[j]?=some u→(wr.alloc (.cells #[.slice va rows.length vc,.int .u8 y.en.kind,.int .i64 y.en.a,.int .i64 y.en.to,.int .i64 y.en.els] 38)).cell? ⟨b,off+j,none⟩=some u) :=
      fun _=>⟨_,0,rfl,fun j u hj=>by rw [Nat.zero_add];unfold World.cell?;rw [alloc_new];rw [rowOf_one] at hj;simpa [brV] using hj⟩
     have hsz4:w.heap.size≤(wr.alloc (.cells #[.slice va rows.length vc,.int .u8 y.en.kind,.int .i64 y.en.a,.int .i64 y.en.to,.int .i64 y.en.els] 38)).heap.size:=by rw [World.size_alloc];omega
     clear hq hrows HMI hoi hnb hbq hbw hb4 e5 z5 HOWN HBE
     go_wp2_with (at_builtin;refine wpList_append_row brW (by decide) infoBlk Tryz.underlying39 zeroBlk rfl (.tmp 54) (.tmp 56) rfl w.heap.size _ rfl r.length (rowOf brV r) HB4.out.1 (some ⟨wr.heap.size,0,none⟩) 1 1 [(⟨y.en,.slice va rows.length vc,rows⟩:Br)] rfl rfl HONE.out (fun h=>by cases h) HCELL.out (by unfold maxLen;simp;omega) (by simp;omega) hsz4 ?_)
     intro v5 w5 hown5 hgr5
     have hlo:=(HB4.out.1).lt
     have HFIN:Hid (MidB w l (k+1) v5 w5):=⟨r++[⟨y.en,.slice va rows.length vc,rows⟩],by rw [List.map_append,HR.out,HTK.out];simp [Br.bx,HROWS.out],blks_step HB4.out HI4.out hown5 hgr5,HBW4.out.grown hgr5 hsz4 (fun k hk=>(hlo k hk).1)⟩
     clear hlo hown5 hgr5 HB4 HI4 HBW4 HONE HCELL
     go_wp2
     go_roundg (go - 1)
     case measure=>have:=HK.out;omega
     case rel=>exact ⟨k+1,by have:=HK.out;omega,by go_num,HFIN.out⟩
  ·obtain rfl:k=l.length:=by have:=HK.out;omega
   clear hk hr hown hbe
   have HTL:Hid (l.take l.length=l):=List.take_of_length_le (Nat.le_refl _)
   generalize l.length=n at *
   go_wp2
   go_ret
   obtain ⟨r3,h1,h2,h3⟩:=HM.out
   exact ⟨_,r3,rfl,by rw [h1];exact HTL.out,h2,h3⟩
end Go.Proofs.YtpejpnffcepdlaaGreatDoor.ShTB
