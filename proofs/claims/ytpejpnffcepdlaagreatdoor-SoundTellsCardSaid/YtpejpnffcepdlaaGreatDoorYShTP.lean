/- Walk over fescueref06.Twin. -/
import Derived.Test.YtpejpnffcepdlaaGreatDoorYRwHToShTB
import Derived.Test.YtpejpnffcepdlaaGreatDoorYFwRToTyRT
import Derived.Test.YtpejpnffcepdlaaGreatDoorYShEToShER
import Derived.Test.YtpejpnffcepdlaaGreatDoorYRgZToRgY
set_option maxRecDepth 100000
set_option maxHeartbeats 16000000
namespace Go.Proofs.YtpejpnffcepdlaaGreatDoor.ShTP
open Go.RowKit Go.Lib SetP IntO TyM TyP TyB TyW TyT ShM ShP ShA ShB ShE RwO ShTB RgZ

structure FineP (p:Px):Prop where
 types:p.types.length≤20000
 parts:∀ x∈p.types,x.parts.length≤20000
 funcs:p.funcs.length≤20000
 blocks:∀ f∈p.funcs,f.blocks.length≤50000∧Fine f.blocks
theorem Small.fine {p:Px} (h:Small p):FineP p:=⟨h.types,h.parts,by have:=h.funcs;omega,fun f hf=>⟨by have:=h.blocks f hf;omega,fun b hb=>⟨by
 have h1:=h.many f hf
 obtain ⟨k,hk,rfl⟩:=List.mem_iff_getElem.1 hb
 have:=manyB_mem hk
 omega,fun x hx=>by have:=h.args f hf b hb x hx;omega⟩⟩⟩
def MidF (w1:World) (ut:Value) (p:Px) (k:Nat) (wr:World):Prop:=∃ (u:Value) (fs:List Fr),fs.map Fr.fx=p.funcs.take k∧OwnFns (w1.heap.size+1) wr u fs∧wr.heap[w1.heap.size]?=some (.cells #[ut,u] 27 (0,0))∧Below w1.heap.size w1 wr
theorem row_new {ρ:Type} (w:World) (cs:Array Value) (ty:TypeId) (y:ρ) (f:ρ→List Value) (h:f y=cs.toList):∀ j u,(rowOf f [y])[j]?=some u→(w.alloc (.cells cs ty)).cell? ⟨w.heap.size,0+j,none⟩=some u:=fun j u hj=>by
 rw [Nat.zero_add];unfold World.cell?;rw [alloc_new];rw [rowOf_one,h] at hj;simpa using hj
theorem fns_step {B nb:Nat} {w4 w5:World} {v0 v5:Value} {r:List Fr} {y:Fr} {cs:Array Value} (ho:OwnFns B w4 v0 r) (hy:OwnBlks B w4 y.vb y.blocks) (h5:w5.ownsRow B 41 2 v5 (r.length+1) (rowOf frV r++rowOf frV [y])) (hgr:w4.grownBy w5 v0.ownBlock) (hnb:w4.heap[nb]?=some (.cells cs 27 (0,0))) :
  OwnFns B (w5.setCell ⟨nb,1,none⟩ v5) v5 (r++[y])∧w5.heap[nb]?=some (.cells cs 27 (0,0))∧(w5.setCell ⟨nb,1,none⟩ v5).heap[nb]?=some (.cells (cs.setIfInBounds 1 v5) 27 (0,0)):=by
 have hne:v0.ownBlock≠some nb:=fun e=>by
  obtain ⟨cs2,fr2,h2⟩:=own_typed ho.1 nb e
  rw [hnb] at h2
  simp at h2
 have hlt:=(Array.getElem?_eq_some_iff.1 hnb).1
 have hb5:w5.heap[nb]?=some (.cells cs 27 (0,0)):=(hgr.block nb hlt (fun e=>hne e.symm)).trans hnb
 have hg:=grown_set w5 nb 1 v5
 refine ⟨⟨?_,fun z hz=>?_⟩,hb5,set_heap' (i:=1) v5 hb5⟩
 ·rw [List.length_append,rowOf_append]
  exact owns_other h5 hg (typed_at hb5) (by decide)
 ·rcases List.mem_append.1 hz with hz | hz
  ·exact ((ho.2 z hz).other hgr (own_typed ho.1) (by decide) (by decide) (by decide)).other hg (typed_at hb5) (by decide) (by decide) (by decide)
  ·rw [List.mem_singleton.1 hz]
   exact (hy.other hgr (own_typed ho.1) (by decide) (by decide) (by decide)).other hg (typed_at hb5) (by decide) (by decide) (by decide)
theorem keep_grown {w w' : World} {row:Option Nat} {a b c d:Addr} {x y z u:Value} (h:w.cell? a=some x∧w.cell? b=some y∧w.cell? c=some z∧w.cell? d=some u) (hg:w.grownBy w' row) (hn:∀ g,row=some g→g≠a.block∧g≠b.block∧g≠c.block∧g≠d.block) :
  w'.cell? a=some x∧w'.cell? b=some y∧w'.cell? c=some z∧w'.cell? d=some u:=by
 have key:∀ (p:Addr) (v:Value),w.cell? p=some v→(∀ g,row=some g→g≠p.block)→w'.cell? p=some v:=fun p v h hne =>
  (World.cell?_of_block (hg.block p.block (World.block_lt_of_cell? w p h) (fun e=>hne _ e.symm rfl))).trans h
 exact ⟨key _ _ h.1 fun g e=>(hn g e).1,key _ _ h.2.1 fun g e=>(hn g e).2.1,key _ _ h.2.2.1 fun g e=>(hn g e).2.2.1,key _ _ h.2.2.2 fun g e=>(hn g e).2.2.2⟩

theorem _root_.Go.Proofs.YtpejpnffcepdlaaGreatDoor.TyW.OwnT.other {B:Nat} {w w' : World} {v:Value} {r:List Row} {f:TypeId} {row:Option Nat} (h:OwnT B v r w) (hg:w.grownBy w' row) (hr:∀ g,row=some g→∃ cs fr,w.heap[g]?=some (.cells cs f fr)) (h1:3≠f) (h2:43≠f):OwnT B v r w':=⟨owns_other h.1 hg hr h2,fun y hy=>owns_other (h.2 y hy) hg hr h1⟩
theorem _root_.Go.Proofs.YtpejpnffcepdlaaGreatDoor.RwO.OwnFns.other {B:Nat} {w w' : World} {v:Value} {r:List Fr} {f:TypeId} {row:Option Nat} (h:OwnFns B w v r) (hg:w.grownBy w' row) (hr:∀ g,row=some g→∃ cs fr,w.heap[g]?=some (.cells cs f fr)) (h1:3≠f) (h2:31≠f) (h3:38≠f) (h4:41≠f):OwnFns B w' v r:=⟨owns_other h.1 hg hr h4,fun y hy=>(h.2 y hy).other hg hr h1 h2 h3⟩

theorem twinRef_calls (p:Px) (v:Value) (w:World) (hp:PrAt w v p) (hfine:FineP p):Calls Tryz.prog 14 #[v] w (TwinP p w):=by
 obtain ⟨vt,vf,rfl,ht,hf⟩:=hp
 have HF:=hid hf
 have HFI:=hid hfine
 have hb0:=(alloc_below w (.cells #[vt,vf] 27)).alloc (by simp) (.cells #[.slice none 0 0,.slice none 0 0] 27)
 have HTW:=hid (TyRT.twinR_calls vt p.types _ (ht.below hb0) hfine.types hfine.parts)
 have HB0:=hid hb0
 obtain ⟨ta,tc,rfl⟩:=ht.slice
 obtain ⟨fa,fc,rfl,hfl⟩:=hf.slice
 clear ht hf hfine hb0
 go_enter Tryz.func14,Tryz.ntmps14
 go_wp2_with fail
 refine HTW.out.mono ?_
 rintro e w1 ⟨ut,tr,rfl,htr,hot,hb1⟩
 have hbe:=HB0.out.trans (hb1.mono HB0.out.size)
 have hsz1:w.heap.size+2≤w1.heap.size:=by have:=hb1.size;simp only [World.size_alloc] at this;omega
 have HWW:=hid hsz1
 have HOT:=hid hot
 have HTR:=hid htr
 have HBE:=hid hbe
 have q1:=(hb1.cell (p:=⟨w.heap.size,1,none⟩) (by simp only [World.size_alloc];omega)).trans ((((Below.refl _ _).alloc (Nat.le_refl _) (.cells #[.slice none 0 0,.slice none 0 0] 27)).cell (p:=⟨w.heap.size,1,none⟩) (by simp)).trans (show (w.alloc (.cells #[.slice ta p.types.length tc,.slice fa p.funcs.length fc] 27)).cell? ⟨w.heap.size,1,none⟩=some (.slice fa p.funcs.length fc) by simp))
 have hz2:w1.heap[w.heap.size+1]?=some (.cells #[.slice none 0 0,.slice none 0 0] 27 (0,0)):=by
  refine (hb1.block (w.heap.size+1) (by simp only [World.size_alloc];omega)).trans ?_
  have:=alloc_new (w.alloc (.cells #[.slice ta p.types.length tc,.slice fa p.funcs.length fc] 27)) (.cells #[.slice none 0 0,.slice none 0 0] 27)
  rwa [World.size_alloc] at this
 have HQ1:=hid q1
 have HZ2:=hid hz2
 obtain ⟨uta,utc,rfl⟩:=own_form hot.1
 clear hb1 hot htr hbe HTW HB0 hz2
 go_wp2_with fail
 go_loopg [4] p.funcs.length (fun gk i wr=>∃ k:Nat,k+gk=p.funcs.length∧i=.int .i64 k∧MidF w1 (.slice uta tr.length utc) p k wr)
 case atStart=>exact ⟨0,by omega,rfl,.slice none 0 0,[],rfl,⟨World.ownsRow_nil _ _ _ _,by simp⟩,alloc_new _ _,alloc_below _ _⟩
 case round =>
  obtain ⟨k,hk,rfl,hmid⟩:=hrel
  have HK:=hid hk
  obtain ⟨u,fs,hfs,hof,hnb,hbr⟩:=hmid
  have hq1:=(hbr.cell (p:=⟨w.heap.size,1,none⟩) (by show w.heap.size < w1.heap.size;omega)).trans HQ1.out
  clear q1
  by_cases hlt:k < p.funcs.length
  ·obtain ⟨tb,off,rfl,htb,vb,c0,c1,hbl⟩:=HF.out.at k hlt
   have HTK:Hid (p.funcs.take (k+1)=p.funcs.take k++[p.funcs[k]]):=List.take_succ_eq_append_getElem hlt
   have hxf:=HFI.out.blocks _ (List.getElem_mem hlt)
   have HFL:Hid (fs.length≤20000):=by
    show _≤_
    have:=congrArg List.length hfs
    have:=HFI.out.funcs
    simp at *
    omega
   have HFS:=hid hfs
   have hbw:Below w.heap.size w wr:=HBE.out.trans (hbr.mono (by omega))
   have HTB:=hid htb
   clear hfs hk
   generalize p.funcs[k]=x at *
   have c0r:=(hbw.cell (p:=⟨tb,_,none⟩) htb).trans c0
   have c1r:=(hbw.cell (p:=⟨tb,_,none⟩) htb).trans c1
   obtain ⟨n0,hn0⟩:=cells_heap hnb
   have d1:=n0 1 (by simp)
   simp only [List.getElem_toArray,List.getElem_cons_succ,List.getElem_cons_zero] at d1
   have HC:=hid (twinBlocks_calls vb x.blocks wr.drew (hbl.below blkStays (hbw.drew)) hxf.1 hxf.2)
   obtain ⟨ba,bc,rfl,_⟩:=hbl.slice
   have HD:Hid (wr.drew.cell? ⟨w.heap.size,1,none⟩=some (.slice (some ⟨tb,off,none⟩) p.funcs.length fc)∧wr.drew.cell? ⟨w1.heap.size,1,none⟩=some u∧wr.drew.cell? ⟨tb,off+k * 2,none⟩=some (.int .i64 x.sig)∧wr.drew.cell? ⟨tb,off+k * 2+1,none⟩=some (.slice ba x.blocks.length bc)):=⟨hq1,d1,c0r,c1r⟩
   have hszr:=hbr.size
   have hnlt:=(Array.getElem?_eq_some_iff.1 hnb).1
   have HN3:Hid (w1.heap.size < wr.heap.size):=hnlt
   have HSZ:Hid (w1.heap.size+1≤wr.heap.size):=hnlt
   have HSTEP:Hid (∀ w4,Below wr.heap.size wr.drew w4→OwnFns (w1.heap.size+1) w4 u fs∧w4.heap[w1.heap.size]?=some (.cells #[.slice uta tr.length utc,u] 27 (0,0))∧Below w1.heap.size w1 w4) :=
    fun w4 hb=>by
     have hb' : Below wr.heap.size wr w4:=(Below.refl _ _).drew.trans hb
     exact ⟨hof.below hb',(hb'.block _ hnlt).trans hnb,hbr.trans (hb'.mono hszr)⟩
   clear hof hnb hbr hbl hbw c0 c1 c0r c1r hxf n0 hn0 hnlt hszr hsz1 HTR
   go_upto_region 5 with fail
   refine wp_region_noPanic ?_
   refine wp_region_Z (S:=(fun w'=>w'.cell? ⟨w.heap.size,1,none⟩=some (.slice (some ⟨tb,off,none⟩) p.funcs.length fc)∧w'.cell? ⟨w1.heap.size,1,none⟩=some u∧w'.cell? ⟨tb,off+k * 2,none⟩=some (.int .i64 x.sig)∧w'.cell? ⟨tb,off+k * 2+1,none⟩=some (.slice ba x.blocks.length bc))) (Z:=[19]) (by kernel_rfl) ?_ (fun hHeld=>?_)
   ·(try dsimp only)
    (first | exact HD.out | exact keep4 (alloc_below _ _) (keep4 HB4.out HD.out) | exact keep4 HB4.out HD.out | exact HK5.out)
   refine wpAnyZ_take (i:=0) (oi:={ dst:=some 16,op:=Go.Op.fieldAddr 27 (Go.Operand.tmp 3) 1,type:=0,pos := "ref.go:80",after:=#[],guard:=none }) (v:=?_) rfl (by kernel_rfl) (by kernel_rfl) (by kernel_rfl) (by kernel_rfl) (by kernel_rfl) (fun _ _ _ h=>h) (Or.inl ⟨by rfl,?_⟩) (by assumption) ?_
   rotate_left
   ·intro w hSw;(try dsimp only at hSw);go_simp;all_goals (try with_reducible rfl)
   try simp only [Act.put,List.setIfInBounds_toArray,List.set_cons_zero,List.set_cons_succ]
   refine wpAnyZ_take (i:=1) (oi:={ dst:=some 17,op:=Go.Op.load 25 (Go.Operand.tmp 16),type:=25,pos := "ref.go:80",after:=#[{ on:=0,ground:=Go.Ground.data }],guard:=none }) (v:=?_) rfl (by kernel_rfl) (by kernel_rfl) (by kernel_rfl) (by kernel_rfl) (by kernel_rfl) (fun _ _ _ h=>h) (Or.inl ⟨by rfl,?_⟩) (by assumption) ?_
   rotate_left
   ·intro w hSw;(try dsimp only at hSw);go_simp;all_goals (try with_reducible rfl)
   try simp only [Act.put,List.setIfInBounds_toArray,List.set_cons_zero,List.set_cons_succ]
   refine wpAnyZ_take (i:=2) (oi:={ dst:=some 18,op:=Go.Op.fieldAddr 27 (Go.Operand.tmp 1) 1,type:=0,pos := "ref.go:80",after:=#[],guard:=none }) (v:=?_) rfl (by kernel_rfl) (by kernel_rfl) (by kernel_rfl) (by kernel_rfl) (by kernel_rfl) (fun _ _ _ h=>h) (Or.inl ⟨by rfl,?_⟩) (by assumption) ?_
   rotate_left
   ·intro w hSw;(try dsimp only at hSw);go_simp;all_goals (try with_reducible rfl)
   try simp only [Act.put,List.setIfInBounds_toArray,List.set_cons_zero,List.set_cons_succ]
   refine wpAnyZ_take (i:=3) (oi:={ dst:=some 19,op:=Go.Op.load 25 (Go.Operand.tmp 18),type:=25,pos := "ref.go:80",after:=#[{ on:=2,ground:=Go.Ground.data }],guard:=none }) (v:=?_) rfl (by kernel_rfl) (by kernel_rfl) (by kernel_rfl) (by kernel_rfl) (by kernel_rfl) (fun _ _ _ h=>h) (Or.inl ⟨by rfl,?_⟩) (by assumption) ?_
   rotate_left
   ·intro w hSw;(try dsimp only at hSw);go_simp;all_goals (try with_reducible rfl)
   try simp only [Act.put,List.setIfInBounds_toArray,List.set_cons_zero,List.set_cons_succ]
   refine wpAnyZ_take (i:=4) (oi:={ dst:=some 20,op:=Go.Op.move (Go.Operand.tmp 4),type:=3,pos := "ref.go:80",after:=#[],guard:=none }) (v:=?_) rfl (by kernel_rfl) (by kernel_rfl) (by kernel_rfl) (by kernel_rfl) (by kernel_rfl) (fun _ _ _ h=>h) (Or.inl ⟨by rfl,?_⟩) (by assumption) ?_
   rotate_left
   ·intro w hSw;(try dsimp only at hSw);go_simp;all_goals (try with_reducible rfl)
   try simp only [Act.put,List.setIfInBounds_toArray,List.set_cons_zero,List.set_cons_succ]
   refine wpAnyZ_take (i:=5) (oi:={ dst:=some 21,op:=Go.Op.indexAddr 25 (Go.Operand.tmp 19) (Go.Operand.tmp 20),type:=0,pos := "ref.go:80",after:=#[{ on:=3,ground:=Go.Ground.data },{ on:=4,ground:=Go.Ground.data }],guard:=none }) (v:=?_) rfl (by kernel_rfl) (by kernel_rfl) (by kernel_rfl) (by kernel_rfl) (by kernel_rfl) (fun _ _ _ h=>h) (Or.inl ⟨by rfl,?_⟩) (by assumption) ?_
   rotate_left
   ·intro w hSw;(try dsimp only at hSw);go_simp;all_goals (try with_reducible rfl)
   try simp only [Act.put,List.setIfInBounds_toArray,List.set_cons_zero,List.set_cons_succ]
   refine wpAnyZ_take (i:=6) (oi:={ dst:=some 22,op:=Go.Op.fieldAddr 41 (Go.Operand.tmp 21) 0,type:=0,pos := "ref.go:80",after:=#[{ on:=5,ground:=Go.Ground.data }],guard:=none }) (v:=?_) rfl (by kernel_rfl) (by kernel_rfl) (by kernel_rfl) (by kernel_rfl) (by kernel_rfl) (fun _ _ _ h=>h) (Or.inl ⟨by rfl,?_⟩) (by assumption) ?_
   rotate_left
   ·intro w hSw;(try dsimp only at hSw);go_simp;all_goals (try with_reducible rfl)
   try simp only [Act.put,List.setIfInBounds_toArray,List.set_cons_zero,List.set_cons_succ]
   refine wpAnyZ_take (i:=7) (oi:={ dst:=some 23,op:=Go.Op.load 3 (Go.Operand.tmp 22),type:=3,pos := "ref.go:80",after:=#[{ on:=6,ground:=Go.Ground.data }],guard:=none }) (v:=?_) rfl (by kernel_rfl) (by kernel_rfl) (by kernel_rfl) (by kernel_rfl) (by kernel_rfl) (fun _ _ _ h=>h) (Or.inl ⟨by rfl,?_⟩) (by assumption) ?_
   rotate_left
   ·intro w hSw;(try dsimp only at hSw);go_simp;all_goals (try with_reducible rfl)
   try simp only [Act.put,List.setIfInBounds_toArray,List.set_cons_zero,List.set_cons_succ]
   refine wpAnyZ_take (i:=8) (oi:={ dst:=some 24,op:=Go.Op.fieldAddr 27 (Go.Operand.tmp 1) 1,type:=0,pos := "ref.go:80",after:=#[],guard:=none }) (v:=?_) rfl (by kernel_rfl) (by kernel_rfl) (by kernel_rfl) (by kernel_rfl) (by kernel_rfl) (fun _ _ _ h=>h) (Or.inl ⟨by rfl,?_⟩) (by assumption) ?_
   rotate_left
   ·intro w hSw;(try dsimp only at hSw);go_simp;all_goals (try with_reducible rfl)
   try simp only [Act.put,List.setIfInBounds_toArray,List.set_cons_zero,List.set_cons_succ]
   refine wpAnyZ_take (i:=9) (oi:={ dst:=some 25,op:=Go.Op.load 25 (Go.Operand.tmp 24),type:=25,pos := "ref.go:80",after:=#[{ on:=8,ground:=Go.Ground.data }],guard:=none }) (v:=?_) rfl (by kernel_rfl) (by kernel_rfl) (by kernel_rfl) (by kernel_rfl) (by kernel_rfl) (fun _ _ _ h=>h) (Or.inl ⟨by rfl,?_⟩) (by assumption) ?_
   rotate_left
   ·intro w hSw;(try dsimp only at hSw);go_simp;all_goals (try with_reducible rfl)
   try simp only [Act.put,List.setIfInBounds_toArray,List.set_cons_zero,List.set_cons_succ]
   refine wpAnyZ_take (i:=10) (oi:={ dst:=some 26,op:=Go.Op.move (Go.Operand.tmp 4),type:=3,pos := "ref.go:80",after:=#[],guard:=none }) (v:=?_) rfl (by kernel_rfl) (by kernel_rfl) (by kernel_rfl) (by kernel_rfl) (by kernel_rfl) (fun _ _ _ h=>h) (Or.inl ⟨by rfl,?_⟩) (by assumption) ?_
   rotate_left
   ·intro w hSw;(try dsimp only at hSw);go_simp;all_goals (try with_reducible rfl)
   try simp only [Act.put,List.setIfInBounds_toArray,List.set_cons_zero,List.set_cons_succ]
   refine wpAnyZ_take (i:=11) (oi:={ dst:=some 27,op:=Go.Op.indexAddr 25 (Go.Operand.tmp 25) (Go.Operand.tmp 26),type:=0,pos := "ref.go:80",after:=#[{ on:=9,ground:=Go.Ground.data },{ on:=10,ground:=Go.Ground.data }],guard:=none }) (v:=?_) rfl (by kernel_rfl) (by kernel_rfl) (by kernel_rfl) (by kernel_rfl) (by kernel_rfl) (fun _ _ _ h=>h) (Or.inl ⟨by rfl,?_⟩) (by assumption) ?_
   rotate_left
   ·intro w hSw;(try dsimp only at hSw);go_simp;all_goals (try with_reducible rfl)
   try simp only [Act.put,List.setIfInBounds_toArray,List.set_cons_zero,List.set_cons_succ]
   refine wpAnyZ_take (i:=12) (oi:={ dst:=some 28,op:=Go.Op.fieldAddr 41 (Go.Operand.tmp 27) 1,type:=0,pos := "ref.go:80",after:=#[{ on:=11,ground:=Go.Ground.data }],guard:=none }) (v:=?_) rfl (by kernel_rfl) (by kernel_rfl) (by kernel_rfl) (by kernel_rfl) (by kernel_rfl) (fun _ _ _ h=>h) (Or.inl ⟨by rfl,?_⟩) (by assumption) ?_
   rotate_left
   ·intro w hSw;(try dsimp only at hSw);go_simp;all_goals (try with_reducible rfl)
   try simp only [Act.put,List.setIfInBounds_toArray,List.set_cons_zero,List.set_cons_succ]
   refine wpAnyZ_take (i:=13) (oi:={ dst:=some 29,op:=Go.Op.load 39 (Go.Operand.tmp 28),type:=39,pos := "ref.go:80",after:=#[{ on:=12,ground:=Go.Ground.data }],guard:=none }) (v:=?_) rfl (by kernel_rfl) (by kernel_rfl) (by kernel_rfl) (by kernel_rfl) (by kernel_rfl) (fun _ _ _ h=>h) (Or.inl ⟨by rfl,?_⟩) (by assumption) ?_
   rotate_left
   ·intro w hSw;(try dsimp only at hSw);go_simp;all_goals (try with_reducible rfl)
   try simp only [Act.put,List.setIfInBounds_toArray,List.set_cons_zero,List.set_cons_succ]
   refine wpAnyZ_ready (rs:=[14]) (by kernel_rfl) (by simp) ?_
   refine AllReadyZ.cons (o:={ dst:=some 30,op:=Go.Op.call { callee:=Go.Callee.value (Go.Operand.func 32),args:=#[Go.Operand.tmp 29],argTypes:=#[39] },type:=39,pos := "ref.go:80",after:=#[{ on:=13,ground:=Go.Ground.data }],guard:=none }) rfl (fun K hK=>?_) ?_
   ·go_simp
    (go_at_call 32;(with_reducible refine HC.out.mono ?_);rintro e w4 ⟨ub,rb,rfl,hrb,hob,hb4⟩;have HOB:=hid hob;have HRB:=hid hrb;have HB4:=hid hb4;have HS4:Hid (wr.heap.size≤w4.heap.size):=hb4.size;obtain ⟨ua,uc,rfl⟩:=own_form hob.1;clear hob hrb hb4 HC)
    refine hK.out _ _ ?_ (fun hHeld=>?_)
    ·(try dsimp only)
     (first | exact HD.out | exact keep4 (alloc_below _ _) (keep4 HB4.out HD.out) | exact keep4 HB4.out HD.out | exact HK5.out)
    clear hK K
    try simp only [Act.put,List.setIfInBounds_toArray,List.set_cons_zero,List.set_cons_succ]
    refine wpAnyZ_take (i:=15) (oi:={ dst:=some 31,op:=Go.Op.build 41 #[(0,Go.Operand.tmp 23),(1,Go.Operand.tmp 30)],type:=41,pos := "ref.go:80",after:=#[{ on:=7,ground:=Go.Ground.data },{ on:=14,ground:=Go.Ground.data }],guard:=none }) (v:=?_) rfl (by kernel_rfl) (by kernel_rfl) (by kernel_rfl) (by kernel_rfl) (by kernel_rfl) (fun _ _ _ h=>h) (Or.inl ⟨by rfl,?_⟩) (by assumption) ?_
    rotate_left
    ·intro w hSw;(try dsimp only at hSw);go_simp;all_goals (try with_reducible rfl)
    try simp only [Act.put,List.setIfInBounds_toArray,List.set_cons_zero,List.set_cons_succ]
    refine wpAnyZ_ready (rs:=[16]) (by kernel_rfl) (by simp) ?_
    refine AllReadyZ.cons (o:={ dst:=some 32,op:=Go.Op.buildSlice 25 1 #[(0,Go.Operand.tmp 31)],type:=25,pos := "ref.go:80",after:=#[{ on:=15,ground:=Go.Ground.data }],guard:=none }) rfl (fun K hK=>?_) ?_
    ·go_simp
     refine hK.out _ _ ?_ (fun hHeld=>?_)
     ·(try dsimp only)
      (first | exact HD.out | exact keep4 (alloc_below _ _) (keep4 HB4.out HD.out) | exact keep4 HB4.out HD.out | exact HK5.out)
     clear hK K
     try simp only [Act.put,List.setIfInBounds_toArray,List.set_cons_zero,List.set_cons_succ]
     refine wpAnyZ_ready (rs:=[17]) (by kernel_rfl) (by simp) ?_
     refine AllReadyZ.cons (o:={ dst:=some 33,op:=Go.Op.call { callee:=Go.Callee.builtin Go.Builtin.append,args:=#[Go.Operand.tmp 17,Go.Operand.tmp 32],argTypes:=#[25,25] },type:=25,pos := "ref.go:80",after:=#[{ on:=1,ground:=Go.Ground.data },{ on:=16,ground:=Go.Ground.data },{ on:=14,ground:=Go.Ground.chain }],guard:=none }) rfl (fun K hK=>?_) ?_
     ·rw [if_pos (by rfl)]
      have hb5:=alloc_below w4 (.cells #[.int .i64 x.sig,.slice ua rb.length uc] 41)
      have HX5:=hid (HSTEP.out w4 HB4.out)
      have HF5:=hid (HX5.out.1.below hb5)
      have hsz5:w1.heap.size+1≤(w4.alloc (.cells #[.int .i64 x.sig,.slice ua rb.length uc] 41)).heap.size:=by have:=HS4.out;have:=HSZ.out;simp only [World.size_alloc] at *;omega
      refine wp_append_row frW (by decide) infoFn Tryz.underlying25 zeroFn (.tmp 17) (.tmp 32) rfl (w1.heap.size+1) u rfl fs.length (rowOf frV fs) HF5.out.1 w4.heap.size 0 1 1 [(⟨x.sig,.slice ua rb.length uc,rb⟩:Fr)] rfl rfl (fun z hz=>by rw [List.mem_singleton.1 hz];exact oneFr _ ⟨_,_,_,rfl⟩) (row_new _ _ _ _ frV rfl) (by have:=HFL.out;unfold maxLen;simp;omega) (by have:=HFL.out;simp;omega) hsz5 ?_
      intro v5 w5 hown5 hgr5
      obtain ⟨ga,gc,rfl⟩:=own_form hown5
      have HST:=hid (fns_step HF5.out ((HOB.out.base (by have:=HSZ.out;show w1.heap.size+1≤wr.heap.size;omega)).below hb5) hown5 hgr5 ((hb5.block _ (by have:=HS4.out;have:=HN3.out;show w1.heap.size < w4.heap.size;omega)).trans HX5.out.2.1))
      have HBF:=hid (((HX5.out.2.2).trans (hb5.mono (by have:=HS4.out;have:=HN3.out;show w1.heap.size≤w4.heap.size;omega))).grown hgr5 (by have:=hsz5;omega) (fun k hk=>by have:=(HF5.out.1.lt k hk).1;omega))
      have HK5:=hid (keep_grown (keep4 hb5 (keep4 HB4.out HD.out)) hgr5 (fun g hg=>by have h1:=(HF5.out.1.lt g hg).1;have h2:=HTB.out;have h3:=HWW.out;exact ⟨by show g≠w.heap.size;omega,by show g≠w1.heap.size;omega,by show g≠tb;omega,by show g≠tb;omega⟩))
      refine hK.out _ _ ?_ (fun hHeld=>?_)
      ·(try dsimp only)
       (first | exact HD.out | exact keep4 (alloc_below _ _) (keep4 HB4.out HD.out) | exact keep4 HB4.out HD.out | exact HK5.out)
      clear hK K
      try simp only [Act.put,List.setIfInBounds_toArray,List.set_cons_zero,List.set_cons_succ]
      refine wpAnyZ_take (i:=18) (oi:={ dst:=some 34,op:=Go.Op.fieldAddr 27 (Go.Operand.tmp 3) 1,type:=0,pos := "ref.go:80",after:=#[{ on:=0,ground:=Go.Ground.phase },{ on:=1,ground:=Go.Ground.phase },{ on:=2,ground:=Go.Ground.phase },{ on:=3,ground:=Go.Ground.phase },{ on:=4,ground:=Go.Ground.phase },{ on:=5,ground:=Go.Ground.phase },{ on:=6,ground:=Go.Ground.phase },{ on:=7,ground:=Go.Ground.phase },{ on:=8,ground:=Go.Ground.phase },{ on:=9,ground:=Go.Ground.phase },{ on:=10,ground:=Go.Ground.phase },{ on:=11,ground:=Go.Ground.phase },{ on:=12,ground:=Go.Ground.phase },{ on:=13,ground:=Go.Ground.phase },{ on:=14,ground:=Go.Ground.phase },{ on:=15,ground:=Go.Ground.phase },{ on:=16,ground:=Go.Ground.phase },{ on:=17,ground:=Go.Ground.phase }],guard:=none }) (v:=?_) rfl (by kernel_rfl) (by kernel_rfl) (by kernel_rfl) (by kernel_rfl) (by kernel_rfl) (fun _ _ _ h=>h) (Or.inl ⟨by rfl,?_⟩) (by assumption) ?_
      rotate_left
      ·intro w hSw;(try dsimp only at hSw);go_simp;all_goals (try with_reducible rfl)
      try simp only [Act.put,List.setIfInBounds_toArray,List.set_cons_zero,List.set_cons_succ]
      refine wpAnyZ_ready (rs:=[19]) (by kernel_rfl) (by simp) ?_
      refine AllReadyZ.last (o:={ dst:=none,op:=Go.Op.store 25 (Go.Operand.tmp 34) (Go.Operand.tmp 33),type:=0,pos := "ref.go:80",after:=#[{ on:=18,ground:=Go.Ground.data },{ on:=17,ground:=Go.Ground.data },{ on:=17,ground:=Go.Ground.chain },{ on:=0,ground:=Go.Ground.phase },{ on:=1,ground:=Go.Ground.phase },{ on:=2,ground:=Go.Ground.phase },{ on:=3,ground:=Go.Ground.phase },{ on:=4,ground:=Go.Ground.phase },{ on:=5,ground:=Go.Ground.phase },{ on:=6,ground:=Go.Ground.phase },{ on:=7,ground:=Go.Ground.phase },{ on:=8,ground:=Go.Ground.phase },{ on:=9,ground:=Go.Ground.phase },{ on:=10,ground:=Go.Ground.phase },{ on:=11,ground:=Go.Ground.phase },{ on:=12,ground:=Go.Ground.phase },{ on:=13,ground:=Go.Ground.phase },{ on:=14,ground:=Go.Ground.phase },{ on:=15,ground:=Go.Ground.phase },{ on:=16,ground:=Go.Ground.phase },{ on:=17,ground:=Go.Ground.phase }],guard:=none }) rfl (by kernel_rfl) (fun K hK=>?_) ?_
      ·skip
       have zz1:w5.frozen? ⟨w1.heap.size,1,none⟩=false:=(cells_heap HST.out.2.1).2 1
       go_simp
       refine hK.out _ _ ?_
       clear hK K
       try simp only [Act.put,List.setIfInBounds_toArray,List.set_cons_zero,List.set_cons_succ]
       refine wpAnyZ_done (by kernel_rfl) ?_ _
       refine NoPanic.normal ?_
       obtain ⟨hs1,hs2,hs3⟩:=HST.out
       simp only [List.setIfInBounds_toArray,List.set_cons_zero,List.set_cons_succ] at hs3
       have HFIN:Hid (MidF w1 (.slice uta tr.length utc) p (k+1) (w5.setCell ⟨w1.heap.size,1,none⟩ (.slice ga (fs.length+1) gc))):=⟨_,_,by rw [List.map_append,HFS.out,HTK.out];simp [Fr.fx,HRB.out],hs1,hs3,HBF.out.setCell (p:=⟨w1.heap.size,1,none⟩) (Nat.le_refl _) _⟩
       clear hs1 hs2 hs3 HST HBF HK5 HOB
       go_wp2
       go_roundg (gk - 1)
       case measure=>have:=HK.out;omega
       case rel=>exact ⟨k+1,by have:=HK.out;omega,by go_num,HFIN.out⟩
      exact AllReadyZ.nil
     exact AllReadyZ.nil
    exact AllReadyZ.nil
   exact AllReadyZ.nil
  ·obtain rfl:k=p.funcs.length:=by omega
   rw [List.take_length] at hfs
   have HFS:=hid hfs
   have HOF:=hid hof
   have HOTr:=hid (HOT.out.below (hbr.mono (Nat.le_refl _)))
   have HBR:=hid hbr
   obtain ⟨n0,_⟩:=cells_heap hnb
   have d0:=n0 0 (by simp)
   have d1:=n0 1 (by simp)
   simp only [List.getElem_toArray,List.getElem_cons_succ,List.getElem_cons_zero] at d0 d1
   have hz2:=(hbr.block (w.heap.size+1) (by omega)).trans HZ2.out
   obtain ⟨_,z0⟩:=cells_heap hz2
   have zz0:=z0 0
   have zz1:=z0 1
   obtain ⟨ufa,ufc,rfl⟩:=own_form hof.1
   have hg0:=grown_set wr (w.heap.size+1) 0 (.slice uta tr.length utc)
   have hz3:=set_heap' (i:=0) (.slice uta tr.length utc) hz2
   have hg1:=grown_set (wr.setCell ⟨w.heap.size+1,0,none⟩ (.slice uta tr.length utc)) (w.heap.size+1) 1 (.slice ufa fs.length ufc)
   have HFIN:Hid (OwnPr w.heap.size ((wr.setCell ⟨w.heap.size+1,0,none⟩ (.slice uta tr.length utc)).setCell ⟨w.heap.size+1,1,none⟩ (.slice ufa fs.length ufc)) (.agg #[.slice uta tr.length utc,.slice ufa fs.length ufc]) p) :=
    ⟨_,_,tr,fs,rfl,((HOTr.out.base (by simp only [World.size_alloc];omega)).other hg0 (typed_at hz2) (by decide) (by decide)).other hg1 (typed_at hz3) (by decide) (by decide),HTR.out,
     ((hof.base (by omega)).other hg0 (typed_at hz2) (by decide) (by decide) (by decide) (by decide)).other hg1 (typed_at hz3) (by decide) (by decide) (by decide) (by decide),HFS.out⟩
   have HBF:=hid (((HBE.out.trans (hbr.mono (by omega))).setCell (p:=⟨w.heap.size+1,0,none⟩) (by show w.heap.size≤_+1;omega) (.slice uta tr.length utc)).setCell (p:=⟨w.heap.size+1,1,none⟩) (by show w.heap.size≤_+1;omega) (.slice ufa fs.length ufc))
   have hz4:=set_heap' (i:=1) (.slice ufa fs.length ufc) hz3
   simp only [List.setIfInBounds_toArray,List.set_cons_zero,List.set_cons_succ] at hz3 hz4
   have x0:=(cells_heap hz3).1 0 (by simp)
   have x1:=(cells_heap hz4).1 1 (by simp)
   simp only [List.getElem_toArray,List.getElem_cons_succ,List.getElem_cons_zero] at x0 x1
   clear hz4
   clear hfs hof hbr hnb hk hz2 z0 n0 hg0 hg1 hz3 HOF HOTr HBR HTR HOT HFS
   generalize p.funcs.length=nl at *
   go_wp2
   (try simp only [Exit.inBlock,Exit.then])
   refine bodyPost_ret (by simp [results,Tryz.results14,go_sem,x0,x1];try rfl) rfl ?_
   exact ⟨_,rfl,HFIN.out,HBF.out⟩
end Go.Proofs.YtpejpnffcepdlaaGreatDoor.ShTP
