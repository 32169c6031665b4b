/- How long the slices of an argument that is a program are: by the row's own reach. -/
import Derived.Test.YtpejpnffcepdlaaGreatDoorYShOpen
import Derived.Test.YtpejpnffcepdlaaGreatDoorYShBToShW
import Derived.SizedLaws
set_option maxRecDepth 100000
set_option maxHeartbeats 16000000
namespace Go.Proofs.YtpejpnffcepdlaaGreatDoor.ShSz
open Go.RowKit Go.Lib SetP IntO TyM TyP ShM ShP ShOpen ShR Go.ChangeShapes Go.WideShapes Go.ChangeAt

theorem weights_all {H:Type} {P:Program} {e:TypeId} : ∀ {l:List (DataW H)} {d:DataW H},d∈l→∀ n∈d.weights P e,n∈DataW.weightsAll P e l
 | x :: l,d,h,n,hn=>by
  simp only [DataW.weightsAll,List.mem_append]
  rcases List.mem_cons.1 h with rfl | h
  ·exact .inl hn
  ·exact .inr (weights_all h n hn)
def Light {H:Type} (t:TypeId) (d:DataW H):Prop:=∀ n∈d.weights Tryz.prog t,n≤reachBytes

theorem open_rowS {H:Type} {enc:TypeId × Value→H} {W:World} {α:Type} (dflt:α) {ts te:TypeId} {sz:Nat} (In:World→Nat→Nat→α→Prop) (Ok OkL:α→Prop) (hu:Tryz.prog.underlying ts=some (.slice te)) (hc:Tryz.prog.cellsOf te=sz) (hpos:0 < sz) (hby:1≤Tryz.prog.bytesOf te)
  (E:∀ (n:Nat) (cs:List Value) (d:DataW H × List MemPlace),cs.length=sz→DataW.trod enc Tryz.prog W 0 (fun _=>true) true n te cs=some d→∃ x:α,Ok x∧(Light te d.1→OkL x)∧∀ b o,b < W.heap.size→(∀ i,i < sz→W.cell? ⟨b,o+i,none⟩=cs[i]?)→In W b o x)
  {n:Nat} {v:Value} {d:DataW H × List MemPlace} (hf:DataW.trod enc Tryz.prog W 0 (fun _=>true) true n ts [v]=some d) :
  ∃ l:List α,RowAt sz In W v l∧(∀ x∈l,Ok x)∧(Light ts d.1→l.length≤reachBytes∧∀ x∈l,OkL x):=by
 rcases Go.Deep.open_slice hu hf with ⟨hcs,_⟩ | ⟨a,l,c,m,n,D,Pl,hcs,_,hl,hm,hmm,hd,hx⟩
 ·obtain rfl:v=.slice none 0 0:=by simpa using hcs
  exact ⟨[],RowAt.none W,by simp,fun _=>⟨by simp,by simp⟩⟩
 ·obtain rfl:v=.slice (some a) l c:=by simpa using hcs
  simp only [if_true] at hmm
  subst hmm
  unfold maxLen at hm
  rw [hc] at hx
  have hw:∀ i,i < m→∃ x:α,Ok x∧(Light te (D i)→OkL x)∧∀ b off,a=⟨b,off,none⟩→b < W.heap.size→In W b (off+i * sz) x:=by
   intro i hi
   obtain ⟨cs',h1,h2⟩:=hx i hi
   obtain ⟨_,hlen,hcell⟩:=World.cells?_some h1
   obtain ⟨x,ok,okl,hin⟩:=E _ cs' _ hlen h2
   refine ⟨x,ok,okl,fun b off ha hb=>hin b _ hb fun j hj=>?_⟩
   have:=hcell j hj
   rw [Go.Deep.add_add,ha,Go.WideShapes.add_plain] at this
   rw [Nat.add_assoc]
   exact this
  let X:Nat→α:=fun i=>if h:i < m then Classical.choose (hw i h) else dflt
  have hX:∀ i,i < m→Ok (X i)∧(Light te (D i)→OkL (X i))∧∀ b off,a=⟨b,off,none⟩→b < W.heap.size→In W b (off+i * sz) (X i):=by
   intro i hi
   have:X i=Classical.choose (hw i hi):=by simp [X,hi]
   rw [this];exact Classical.choose_spec (hw i hi)
  refine ⟨(List.range l).map X,⟨some a,m,by simp,by simp;omega,fun h0=>?_,(fun h=>by cases h),by simpa using hl⟩,fun x hxm=>?_,fun hL=>?_⟩
  ·simp at h0
   obtain ⟨b,off,spot⟩:=a
   obtain ⟨cs',h1,_⟩:=hx 0 (by omega)
   obtain ⟨_,hlen,hcell⟩:=World.cells?_some h1
   have k0:=hcell 0 hpos
   rw [Go.Deep.add_add,List.getElem?_eq_getElem (by omega)] at k0
   have hspot:spot=none:=by simpa [Addr.add] using World.cell?_spot k0
   subst hspot
   have hb:b < W.heap.size:=by
    rw [Go.WideShapes.add_plain] at k0
    exact World.block_lt_of_cell? W _ k0
   refine ⟨b,off,rfl,hb,fun i hi=>?_⟩
   simp at hi
   simp only [List.getElem_map,List.getElem_range]
   exact (hX i (by omega)).2.2 b off rfl hb
  ·simp at hxm
   obtain ⟨i,hi,rfl⟩:=hxm
   exact (hX i (by omega)).1
  ·rw [hd] at hL
   have hL1:∀ n∈(DataW.slice (List.map D (List.range l)) (List.map (fun j=>D (l+j)) (List.range (m - l)))).weights Tryz.prog ts,n≤reachBytes:=hL
   simp only [DataW.weights,hu] at hL1
   refine ⟨?_,fun x hxm=>?_⟩
   ·have h1:=hL1 _ (List.mem_cons_self ..)
    simp only [List.length_map,List.length_range] at h1 ⊢
    have h2:=Nat.le_mul_of_pos_right (l+(m - l)) hby
    omega
   ·simp at hxm
    obtain ⟨i,hi,rfl⟩:=hxm
    refine (hX i (by omega)).2.1 fun n hn=>hL1 n (List.mem_cons_of_mem _ (List.mem_append_left _ (weights_all (d:=D i) ?_ n hn)))
    exact List.mem_map_of_mem (List.mem_range.2 hi)
theorem light_part {H:Type} {t:TypeId} {fs:Array Field} {parts:List (DataW H)} (hu:Tryz.prog.underlying t=some (.struct fs)) (h:Light t (.agg parts)) {i:Nat} {f:Field} {d:DataW H} (hf:fs[i]?=some f) (hd:parts[i]?=some d):Light f.type d:=by
 intro n hn
 refine h n ?_
 simp only [DataW.weights,hu]
 exact DataW.weights_mem_each (j:=i) (by simp [hf]) hd n hn
def LenB (b:Bx):Prop:=b.ins.length≤reachBytes
def LenF (f:Fx):Prop:=∀ b∈f.blocks,LenB b

theorem bytesIx:1≤Tryz.prog.bytesOf 31:=of_decide_eq_true (by kernel_rfl)
theorem bytesBx:1≤Tryz.prog.bytesOf 38:=of_decide_eq_true (by kernel_rfl)
theorem bytesFx:1≤Tryz.prog.bytesOf 41:=of_decide_eq_true (by kernel_rfl)
theorem open_inssS {H:Type} {enc:TypeId × Value→H} {W:World} {n:Nat} {v:Value} {d:DataW H × List MemPlace} (hf:DataW.trod enc Tryz.prog W 0 (fun _=>true) true n 36 [v]=some d):∃ l:List Ix,InsAt W v l∧(∀ x∈l,IxOk x)∧(Light 36 d.1→l.length≤reachBytes∧∀ x∈l,True) :=
 open_rowS default InsIn IxOk (fun _=>True) Tryz.underlying36 cellsIx (by decide) bytesIx (fun n cs d hl h=>by
  obtain ⟨x,va,vf,rfl,ha,hf,ok⟩:=openIx hl h
  exact ⟨x,ok,fun _=>trivial,fun b o hb hc=>⟨va,vf,hc 0 (by omega),hc 1 (by omega),hc 2 (by omega),hc 3 (by omega),hc 4 (by omega),hc 5 (by omega),hc 6 (by omega),ha,hf⟩⟩) hf
theorem openBxS {H:Type} {enc:TypeId × Value→H} {W:World} {cs:List Value} {d:DataW H × List MemPlace} {n:Nat} (hl:cs.length=5) (h:DataW.trod enc Tryz.prog W 0 (fun _=>true) true n 38 cs=some d) :
  ∃ (x:Bx) (vi:Value),cs=[vi,.int .u8 x.en.kind,.int .i64 x.en.a,.int .i64 x.en.to,.int .i64 x.en.els]∧InsAt W vi x.ins∧BxOk x∧(Light 38 d.1→LenB x):=by
 obtain ⟨f0,f1,hu,⟨t0,o0⟩,⟨t1,o1⟩⟩:=strBx
 obtain ⟨xs,k,hk,hxy,_,hxl,hff⟩:=DataW.trod_struct hu h
 match xs,hxl,cs,hl with
 | [y0,y1],_,[v0,v1,v2,v3,v4],_ =>
  have g0:=hff 0 f0 rfl
  simp [o0,t0,cellsInss] at g0
  obtain ⟨x0,i0,w0,z0⟩:=open_inssS g0
  have g1:=hff 1 f1 rfl
  simp [o1,t1,cellsEx] at g1
  obtain ⟨x1,i1,w1⟩:=openEx rfl g1
  simp at i1
  obtain ⟨rfl,rfl,rfl,rfl⟩:=i1
  refine ⟨⟨x0,x1⟩,_,rfl,i0,⟨w1,w0⟩,fun hL=>?_⟩
  rw [hxy] at hL
  have:=light_part hu hL (i:=0) (f:=f0) (d:=y0.1) rfl (by simp)
  rw [t0] at this
  exact (z0 this).1
theorem open_blksS {H:Type} {enc:TypeId × Value→H} {W:World} {n:Nat} {v:Value} {d:DataW H × List MemPlace} (hf:DataW.trod enc Tryz.prog W 0 (fun _=>true) true n 39 [v]=some d):∃ l:List Bx,BlksAt W v l∧(∀ x∈l,BxOk x)∧(Light 39 d.1→l.length≤reachBytes∧∀ x∈l,LenB x) :=
 open_rowS default BlkIn BxOk LenB Tryz.underlying39 cellsBx (by decide) bytesBx (fun n cs d hl h=>by
  obtain ⟨x,vi,rfl,hi,ok,okl⟩:=openBxS hl h
  exact ⟨x,ok,okl,fun b o hb hc=>⟨vi,hc 0 (by omega),hc 1 (by omega),hc 2 (by omega),hc 3 (by omega),hc 4 (by omega),hi⟩⟩) hf
theorem openFxS {H:Type} {enc:TypeId × Value→H} {W:World} {cs:List Value} {d:DataW H × List MemPlace} {n:Nat} (hl:cs.length=2) (h:DataW.trod enc Tryz.prog W 0 (fun _=>true) true n 41 cs=some d) :
  ∃ (x:Fx) (vb:Value),cs=[.int .i64 x.sig,vb]∧BlksAt W vb x.blocks∧FxOk x∧(Light 41 d.1→LenF x):=by
 obtain ⟨f0,f1,hu,⟨t0,o0⟩,⟨t1,o1⟩⟩:=strFx
 obtain ⟨xs,k,hk,hxy,_,hxl,hff⟩:=DataW.trod_struct hu h
 match xs,hxl,cs,hl with
 | [y0,y1],_,[v0,v1],_ =>
  have g0:=hff 0 f0 rfl
  simp [o0,t0,cellsInt] at g0
  obtain ⟨x0,hx0,_,_⟩:=DataW.trod_int Tryz.underlying3 g0
  simp at hx0
  subst hx0
  have g1:=hff 1 f1 rfl
  simp [o1,t1,cellsBlks] at g1
  obtain ⟨x1,i1,w1,z1⟩:=open_blksS g1
  refine ⟨⟨x0,x1⟩,_,rfl,i1,w1,fun hL=>?_⟩
  rw [hxy] at hL
  have:=light_part hu hL (i:=1) (f:=f1) (d:=y1.1) rfl (by simp)
  rw [t1] at this
  exact (z1 this).2
theorem open_fnsS {H:Type} {enc:TypeId × Value→H} {W:World} {n:Nat} {v:Value} {d:DataW H × List MemPlace} (hf:DataW.trod enc Tryz.prog W 0 (fun _=>true) true n 25 [v]=some d):∃ l:List Fx,FnsAt W v l∧(∀ x∈l,FxOk x)∧(Light 25 d.1→l.length≤reachBytes∧∀ x∈l,LenF x) :=
 open_rowS default FnIn FxOk LenF Tryz.underlying25 cellsFx (by decide) bytesFx (fun n cs d hl h=>by
  obtain ⟨x,vb,rfl,hi,ok,okl⟩:=openFxS hl h
  exact ⟨x,ok,okl,fun b o hb hc=>⟨vb,hc 0 (by omega),hc 1 (by omega),hi⟩⟩) hf
theorem openPxS {H:Type} {enc:TypeId × Value→H} {W:World} {cs:List Value} {d:DataW H × List MemPlace} {n:Nat} (hl:cs.length=2) (h:DataW.trod enc Tryz.prog W 0 (fun _=>true) true n 27 cs=some d) :
  ∃ (x:Px) (vt vf:Value),cs=[vt,vf]∧TysAt W vt x.types∧FnsAt W vf x.funcs∧(∀ y∈x.types,TyOk y)∧(∀ y∈x.funcs,FxOk y)∧(Light 27 d.1→∀ y∈x.funcs,LenF y):=by
 obtain ⟨f0,f1,hu,⟨t0,o0⟩,⟨t1,o1⟩⟩:=strPx
 obtain ⟨xs,k,hk,hxy,_,hxl,hff⟩:=DataW.trod_struct hu h
 match xs,hxl,cs,hl with
 | [y0,y1],_,[v0,v1],_ =>
  have g0:=hff 0 f0 rfl
  simp [o0,t0,cellsTys] at g0
  obtain ⟨x0,i0,w0⟩:=open_tys g0
  have g1:=hff 1 f1 rfl
  simp [o1,t1,cellsFns] at g1
  obtain ⟨x1,i1,w1,z1⟩:=open_fnsS g1
  refine ⟨⟨x0,x1⟩,_,_,rfl,i0,i1,w0,w1,fun hL=>?_⟩
  rw [hxy] at hL
  have:=light_part hu hL (i:=1) (f:=f1) (d:=y1.1) rfl (by simp)
  rw [t1] at this
  exact (z1 this).2
theorem open_prog_at {H:Type} {enc:TypeId × Value→H} {W:World} {v:Value} {d:DataW H} {p:List MemPlace} (hv:∃ base,Value.okWide Tryz.prog W .any base 27 v) (hL:Light 27 d)
  (h:DataW.Trod enc Tryz.prog W 0 (fun _=>true) true 27 v d p):∃ x:Px,PrAt W v x∧(∀ y∈x.types,TyOk y)∧(∀ y∈x.funcs,FxOk y)∧Lens x:=by
 obtain ⟨f0,f1,hu,_⟩:=strPx
 obtain ⟨base,hv⟩:=hv
 obtain ⟨cs,rfl,hsz⟩:=okWide_struct hu hv
 obtain ⟨fuel,hf⟩:=h
 rw [cellsPx] at hsz
 obtain ⟨x,vt,vf,hx,ht,hf,ok,ok2,okl⟩:=openPxS (cs:=(Value.agg cs).cells.toList) (by simpa [Value.cells] using hsz) hf
 refine ⟨x,⟨vt,vf,agg_eq hx,ht,hf⟩,ok,ok2,fun f hf b hb=>?_⟩
 have h1:b.ins.length≤reachBytes:=okl hL f hf b hb
 have:=reachBytes_lt
 omega
end Go.Proofs.YtpejpnffcepdlaaGreatDoor.ShSz
