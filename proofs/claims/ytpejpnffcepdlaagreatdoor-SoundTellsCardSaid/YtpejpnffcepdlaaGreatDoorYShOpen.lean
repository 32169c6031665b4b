/- Arguments that are programs, instructions and ends, opened out of the row's reading. -/
import Derived.Test.YtpejpnffcepdlaaGreatDoorYTyBToTyTI
import Derived.Test.YtpejpnffcepdlaaGreatDoorYTyOpen
import Derived.ProofKit
import Derived.OpenShut
import Derived.Deep.SlicePairs
set_option maxRecDepth 100000
set_option maxHeartbeats 16000000
namespace Go.Proofs.YtpejpnffcepdlaaGreatDoor.ShOpen
open Go.RowKit Go.Lib SetP IntO TyM TyP ShM ShP Go.ChangeShapes Go.WideShapes Go.ChangeAt

theorem cellsU8:Tryz.prog.cellsOf 5=1:=by kernel_rfl
theorem cellsInt:Tryz.prog.cellsOf 3=1:=by kernel_rfl
theorem cellsI64:Tryz.prog.cellsOf 2=1:=by kernel_rfl
theorem cellsInts:Tryz.prog.cellsOf 29=1:=by kernel_rfl
theorem cellsInss:Tryz.prog.cellsOf 36=1:=by kernel_rfl
theorem cellsBlks:Tryz.prog.cellsOf 39=1:=by kernel_rfl
theorem cellsFns:Tryz.prog.cellsOf 25=1:=by kernel_rfl
theorem cellsTys:Tryz.prog.cellsOf 24=1:=by kernel_rfl

def IxOk (x:Ix):Prop:=(0≤x.op∧x.op≤255)∧-9223372036854775808≤x.n∧x.n≤9223372036854775807
def ExOk (x:Ex):Prop:=0≤x.kind∧x.kind≤255
def BxOk (x:Bx):Prop:=ExOk x.en∧∀ y∈x.ins,IxOk y
def FxOk (x:Fx):Prop:=∀ y∈x.blocks,BxOk y

theorem open_row {H:Type} {enc:TypeId × Value→H} {W:World} {α:Type} (dflt:α) {ts te:TypeId} {sz:Nat} (In:World→Nat→Nat→α→Prop) (Ok:α→Prop) (hu:Tryz.prog.underlying ts=some (.slice te)) (hc:Tryz.prog.cellsOf te=sz) (hpos:0 < sz)
  (E:∀ (n:Nat) (cs:List Value) (d:DataW H × List MemPlace),cs.length=sz→DataW.trod enc Tryz.prog W 0 (fun _=>true) true n te cs=some d→∃ x:α,Ok x∧∀ b o,b < W.heap.size→(∀ i,i < sz→W.cell? ⟨b,o+i,none⟩=cs[i]?)→In W b o x)
  {n:Nat} {v:Value} {d:DataW H × List MemPlace} (hf:DataW.trod enc Tryz.prog W 0 (fun _=>true) true n ts [v]=some d) :
  ∃ l:List α,RowAt sz In W v l∧∀ x∈l,Ok x:=by
 rcases Go.Deep.open_slice hu hf with ⟨hcs,_⟩ | ⟨a,l,c,m,n,D,Pl,hcs,_,hl,hm,hmm,_,hx⟩
 ·obtain rfl:v=.slice none 0 0:=by simpa using hcs
  exact ⟨[],RowAt.none W,by simp⟩
 ·obtain rfl:v=.slice (some a) l c:=by simpa using hcs
  simp only [if_true] at hmm
  subst hmm
  unfold maxLen at hm
  rw [hc] at hx
  have hw:∀ i,i < m→∃ x:α,Ok x∧∀ b off,a=⟨b,off,none⟩→b < W.heap.size→In W b (off+i * sz) x:=by
   intro i hi
   obtain ⟨cs',h1,h2⟩:=hx i hi
   obtain ⟨_,hlen,hcell⟩:=World.cells?_some h1
   obtain ⟨x,ok,hin⟩:=E _ cs' _ hlen h2
   refine ⟨x,ok,fun b off ha hb=>hin b _ hb fun j hj=>?_⟩
   have:=hcell j hj
   rw [Go.Deep.add_add,ha,Go.WideShapes.add_plain] at this
   rw [Nat.add_assoc]
   exact this
  let X:Nat→α:=fun i=>if h:i < m then Classical.choose (hw i h) else dflt
  have hX:∀ i,i < m→Ok (X i)∧∀ b off,a=⟨b,off,none⟩→b < W.heap.size→In W b (off+i * sz) (X i):=by
   intro i hi
   have:X i=Classical.choose (hw i hi):=by simp [X,hi]
   rw [this];exact Classical.choose_spec (hw i hi)
  refine ⟨(List.range l).map X,⟨some a,m,by simp,by simp;omega,fun h0=>?_,(fun h=>by cases h),by simpa using hl⟩,fun x hxm=>?_⟩
  ·simp at h0
   obtain ⟨b,off,spot⟩:=a
   obtain ⟨cs',h1,_⟩:=hx 0 (by omega)
   obtain ⟨_,hlen,hcell⟩:=World.cells?_some h1
   have k0:=hcell 0 hpos
   rw [Go.Deep.add_add,List.getElem?_eq_getElem (by omega)] at k0
   have hspot:spot=none:=by simpa [Addr.add] using World.cell?_spot k0
   subst hspot
   have hb:b < W.heap.size:=by
    rw [Go.WideShapes.add_plain] at k0
    exact World.block_lt_of_cell? W _ k0
   refine ⟨b,off,rfl,hb,fun i hi=>?_⟩
   simp at hi
   simp only [List.getElem_map,List.getElem_range]
   exact (hX i (by omega)).2 b off rfl hb
  ·simp at hxm
   obtain ⟨i,hi,rfl⟩:=hxm
   exact (hX i (by omega)).1

theorem cellsEx:Tryz.prog.cellsOf 35=4:=by kernel_rfl
theorem shapeEx:(match Tryz.prog.underlying 35 with
  | some (.struct fs)=>fs.toList.map fun f=>(f.type,f.offset)
  | _=>[])=[(5,0),(3,1),(3,2),(3,3)]:=by kernel_rfl
theorem strEx:∃ f0 f1 f2 f3:Field,Tryz.prog.underlying 35=some (.struct #[f0,f1,f2,f3])∧(f0.type=5∧f0.offset=0)∧(f1.type=3∧f1.offset=1)∧(f2.type=3∧f2.offset=2)∧(f3.type=3∧f3.offset=3):=by
 have h:=shapeEx
 generalize Tryz.prog.underlying 35=u at h
 cases u with
 | none=>simp at h
 | some d =>
  cases d with
  | struct fs =>
   obtain ⟨l⟩:=fs
   rcases l with _ | ⟨f0,_ | ⟨f1,_ | ⟨f2,_ | ⟨f3,_ | ⟨g,r⟩⟩⟩⟩⟩
   ·simp at h
   ·simp at h
   ·simp at h
   ·simp at h
   ·simp at h
    exact ⟨f0,f1,f2,f3,rfl,h.1,h.2.1,h.2.2.1,h.2.2.2⟩
   ·simp at h
  | _=>simp at h
theorem openEx {H:Type} {enc:TypeId × Value→H} {W:World} {cs:List Value} {d:DataW H × List MemPlace} {n:Nat} (hl:cs.length=4) (h:DataW.trod enc Tryz.prog W 0 (fun _=>true) true n 35 cs=some d) :
  ∃ x:Ex,cs=[.int .u8 x.kind,.int .i64 x.a,.int .i64 x.to,.int .i64 x.els]∧ExOk x:=by
 obtain ⟨f0,f1,f2,f3,hu,⟨t0,o0⟩,⟨t1,o1⟩,⟨t2,o2⟩,⟨t3,o3⟩⟩:=strEx
 obtain ⟨xs,k,hk,hxy,_,hxl,hff⟩:=DataW.trod_struct hu h
 match xs,hxl,cs,hl with
 | [y0,y1,y2,y3],_,[v0,v1,v2,v3],_ =>
  have g0:=hff 0 f0 rfl
  simp [o0,t0,cellsU8] at g0
  obtain ⟨x0,hx0,_,w0⟩:=DataW.trod_int Tryz.underlying5 g0
  simp at hx0
  subst hx0
  have g1:=hff 1 f1 rfl
  simp [o1,t1,cellsInt] at g1
  obtain ⟨x1,hx1,_,w1⟩:=DataW.trod_int Tryz.underlying3 g1
  simp at hx1
  subst hx1
  have g2:=hff 2 f2 rfl
  simp [o2,t2,cellsInt] at g2
  obtain ⟨x2,hx2,_,w2⟩:=DataW.trod_int Tryz.underlying3 g2
  simp at hx2
  subst hx2
  have g3:=hff 3 f3 rfl
  simp [o3,t3,cellsInt] at g3
  obtain ⟨x3,hx3,_,w3⟩:=DataW.trod_int Tryz.underlying3 g3
  simp at hx3
  subst hx3
  simp [Lit.wf,IntKind.min,IntKind.max,IntKind.signed,IntKind.bits] at w0
  exact ⟨⟨x0,x1,x2,x3⟩,rfl,w0⟩
theorem cellsIx:Tryz.prog.cellsOf 31=7:=by kernel_rfl
theorem shapeIx:(match Tryz.prog.underlying 31 with
  | some (.struct fs)=>fs.toList.map fun f=>(f.type,f.offset)
  | _=>[])=[(5,0),(3,1),(3,2),(3,3),(2,4),(29,5),(29,6)]:=by kernel_rfl
theorem strIx:∃ f0 f1 f2 f3 f4 f5 f6:Field,Tryz.prog.underlying 31=some (.struct #[f0,f1,f2,f3,f4,f5,f6])∧(f0.type=5∧f0.offset=0)∧(f1.type=3∧f1.offset=1)∧(f2.type=3∧f2.offset=2)∧(f3.type=3∧f3.offset=3)∧(f4.type=2∧f4.offset=4)∧(f5.type=29∧f5.offset=5)∧(f6.type=29∧f6.offset=6):=by
 have h:=shapeIx
 generalize Tryz.prog.underlying 31=u at h
 cases u with
 | none=>simp at h
 | some d =>
  cases d with
  | struct fs =>
   obtain ⟨l⟩:=fs
   rcases l with _ | ⟨f0,_ | ⟨f1,_ | ⟨f2,_ | ⟨f3,_ | ⟨f4,_ | ⟨f5,_ | ⟨f6,_ | ⟨g,r⟩⟩⟩⟩⟩⟩⟩⟩
   ·simp at h
   ·simp at h
   ·simp at h
   ·simp at h
   ·simp at h
   ·simp at h
   ·simp at h
   ·simp at h
    exact ⟨f0,f1,f2,f3,f4,f5,f6,rfl,h.1,h.2.1,h.2.2.1,h.2.2.2.1,h.2.2.2.2.1,h.2.2.2.2.2.1,h.2.2.2.2.2.2⟩
   ·simp at h
  | _=>simp at h
theorem openIx {H:Type} {enc:TypeId × Value→H} {W:World} {cs:List Value} {d:DataW H × List MemPlace} {n:Nat} (hl:cs.length=7) (h:DataW.trod enc Tryz.prog W 0 (fun _=>true) true n 31 cs=some d) :
  ∃ (x:Ix) (va vf:Value),cs=[.int .u8 x.op,.int .i64 x.typ,.int .i64 x.a,.int .i64 x.b,.int .i64 x.n,va,vf]∧IntsAt W va x.args∧IntsAt W vf x.frm∧IxOk x:=by
 obtain ⟨f0,f1,f2,f3,f4,f5,f6,hu,⟨t0,o0⟩,⟨t1,o1⟩,⟨t2,o2⟩,⟨t3,o3⟩,⟨t4,o4⟩,⟨t5,o5⟩,⟨t6,o6⟩⟩:=strIx
 obtain ⟨xs,k,hk,hxy,_,hxl,hff⟩:=DataW.trod_struct hu h
 match xs,hxl,cs,hl with
 | [y0,y1,y2,y3,y4,y5,y6],_,[v0,v1,v2,v3,v4,v5,v6],_ =>
  have g0:=hff 0 f0 rfl
  simp [o0,t0,cellsU8] at g0
  obtain ⟨x0,hx0,_,w0⟩:=DataW.trod_int Tryz.underlying5 g0
  simp at hx0
  subst hx0
  have g1:=hff 1 f1 rfl
  simp [o1,t1,cellsInt] at g1
  obtain ⟨x1,hx1,_,w1⟩:=DataW.trod_int Tryz.underlying3 g1
  simp at hx1
  subst hx1
  have g2:=hff 2 f2 rfl
  simp [o2,t2,cellsInt] at g2
  obtain ⟨x2,hx2,_,w2⟩:=DataW.trod_int Tryz.underlying3 g2
  simp at hx2
  subst hx2
  have g3:=hff 3 f3 rfl
  simp [o3,t3,cellsInt] at g3
  obtain ⟨x3,hx3,_,w3⟩:=DataW.trod_int Tryz.underlying3 g3
  simp at hx3
  subst hx3
  have g4:=hff 4 f4 rfl
  simp [o4,t4,cellsI64] at g4
  obtain ⟨x4,hx4,_,w4⟩:=DataW.trod_int Tryz.underlying2 g4
  simp at hx4
  subst hx4
  have g5:=hff 5 f5 rfl
  simp [o5,t5,cellsInts] at g5
  obtain ⟨x5,i5,w5⟩:=TyOpen.open_ints_cell g5
  have g6:=hff 6 f6 rfl
  simp [o6,t6,cellsInts] at g6
  obtain ⟨x6,i6,w6⟩:=TyOpen.open_ints_cell g6
  simp [Lit.wf,IntKind.min,IntKind.max,IntKind.signed,IntKind.bits] at w0 w4
  exact ⟨⟨x0,x1,x2,x3,x4,x5,x6⟩,_,_,rfl,i5,i6,w0,w4⟩
theorem open_inss {H:Type} {enc:TypeId × Value→H} {W:World} {n:Nat} {v:Value} {d:DataW H × List MemPlace} (hf:DataW.trod enc Tryz.prog W 0 (fun _=>true) true n 36 [v]=some d):∃ l:List Ix,InsAt W v l∧∀ x∈l,IxOk x :=
 open_row default InsIn IxOk Tryz.underlying36 cellsIx (by decide) (fun n cs d hl h=>by
  obtain ⟨x,va,vf,rfl,ha,hf,ok⟩:=openIx hl h
  exact ⟨x,ok,fun b o hb hc=>⟨va,vf,hc 0 (by omega),hc 1 (by omega),hc 2 (by omega),hc 3 (by omega),hc 4 (by omega),hc 5 (by omega),hc 6 (by omega),ha,hf⟩⟩) hf
theorem cellsBx:Tryz.prog.cellsOf 38=5:=by kernel_rfl
theorem shapeBx:(match Tryz.prog.underlying 38 with
  | some (.struct fs)=>fs.toList.map fun f=>(f.type,f.offset)
  | _=>[])=[(36,0),(35,1)]:=by kernel_rfl
theorem strBx:∃ f0 f1:Field,Tryz.prog.underlying 38=some (.struct #[f0,f1])∧(f0.type=36∧f0.offset=0)∧(f1.type=35∧f1.offset=1):=by
 have h:=shapeBx
 generalize Tryz.prog.underlying 38=u at h
 cases u with
 | none=>simp at h
 | some d =>
  cases d with
  | struct fs =>
   obtain ⟨l⟩:=fs
   rcases l with _ | ⟨f0,_ | ⟨f1,_ | ⟨g,r⟩⟩⟩
   ·simp at h
   ·simp at h
   ·simp at h
    exact ⟨f0,f1,rfl,h.1,h.2⟩
   ·simp at h
  | _=>simp at h
theorem openBx {H:Type} {enc:TypeId × Value→H} {W:World} {cs:List Value} {d:DataW H × List MemPlace} {n:Nat} (hl:cs.length=5) (h:DataW.trod enc Tryz.prog W 0 (fun _=>true) true n 38 cs=some d) :
  ∃ (x:Bx) (vi:Value),cs=[vi,.int .u8 x.en.kind,.int .i64 x.en.a,.int .i64 x.en.to,.int .i64 x.en.els]∧InsAt W vi x.ins∧BxOk x:=by
 obtain ⟨f0,f1,hu,⟨t0,o0⟩,⟨t1,o1⟩⟩:=strBx
 obtain ⟨xs,k,hk,hxy,_,hxl,hff⟩:=DataW.trod_struct hu h
 match xs,hxl,cs,hl with
 | [y0,y1],_,[v0,v1,v2,v3,v4],_ =>
  have g0:=hff 0 f0 rfl
  simp [o0,t0,cellsInss] at g0
  obtain ⟨x0,i0,w0⟩:=open_inss g0
  have g1:=hff 1 f1 rfl
  simp [o1,t1,cellsEx] at g1
  obtain ⟨x1,i1,w1⟩:=openEx rfl g1
  simp at i1
  obtain ⟨rfl,rfl,rfl,rfl⟩:=i1
  exact ⟨⟨x0,x1⟩,_,rfl,i0,w1,w0⟩
theorem open_blks {H:Type} {enc:TypeId × Value→H} {W:World} {n:Nat} {v:Value} {d:DataW H × List MemPlace} (hf:DataW.trod enc Tryz.prog W 0 (fun _=>true) true n 39 [v]=some d):∃ l:List Bx,BlksAt W v l∧∀ x∈l,BxOk x :=
 open_row default BlkIn BxOk Tryz.underlying39 cellsBx (by decide) (fun n cs d hl h=>by
  obtain ⟨x,vi,rfl,hi,ok⟩:=openBx hl h
  exact ⟨x,ok,fun b o hb hc=>⟨vi,hc 0 (by omega),hc 1 (by omega),hc 2 (by omega),hc 3 (by omega),hc 4 (by omega),hi⟩⟩) hf
theorem cellsFx:Tryz.prog.cellsOf 41=2:=by kernel_rfl
theorem shapeFx:(match Tryz.prog.underlying 41 with
  | some (.struct fs)=>fs.toList.map fun f=>(f.type,f.offset)
  | _=>[])=[(3,0),(39,1)]:=by kernel_rfl
theorem strFx:∃ f0 f1:Field,Tryz.prog.underlying 41=some (.struct #[f0,f1])∧(f0.type=3∧f0.offset=0)∧(f1.type=39∧f1.offset=1):=by
 have h:=shapeFx
 generalize Tryz.prog.underlying 41=u at h
 cases u with
 | none=>simp at h
 | some d =>
  cases d with
  | struct fs =>
   obtain ⟨l⟩:=fs
   rcases l with _ | ⟨f0,_ | ⟨f1,_ | ⟨g,r⟩⟩⟩
   ·simp at h
   ·simp at h
   ·simp at h
    exact ⟨f0,f1,rfl,h.1,h.2⟩
   ·simp at h
  | _=>simp at h
theorem openFx {H:Type} {enc:TypeId × Value→H} {W:World} {cs:List Value} {d:DataW H × List MemPlace} {n:Nat} (hl:cs.length=2) (h:DataW.trod enc Tryz.prog W 0 (fun _=>true) true n 41 cs=some d) :
  ∃ (x:Fx) (vb:Value),cs=[.int .i64 x.sig,vb]∧BlksAt W vb x.blocks∧FxOk x:=by
 obtain ⟨f0,f1,hu,⟨t0,o0⟩,⟨t1,o1⟩⟩:=strFx
 obtain ⟨xs,k,hk,hxy,_,hxl,hff⟩:=DataW.trod_struct hu h
 match xs,hxl,cs,hl with
 | [y0,y1],_,[v0,v1],_ =>
  have g0:=hff 0 f0 rfl
  simp [o0,t0,cellsInt] at g0
  obtain ⟨x0,hx0,_,w0⟩:=DataW.trod_int Tryz.underlying3 g0
  simp at hx0
  subst hx0
  have g1:=hff 1 f1 rfl
  simp [o1,t1,cellsBlks] at g1
  obtain ⟨x1,i1,w1⟩:=open_blks g1
  exact ⟨⟨x0,x1⟩,_,rfl,i1,w1⟩
theorem open_fns {H:Type} {enc:TypeId × Value→H} {W:World} {n:Nat} {v:Value} {d:DataW H × List MemPlace} (hf:DataW.trod enc Tryz.prog W 0 (fun _=>true) true n 25 [v]=some d):∃ l:List Fx,FnsAt W v l∧∀ x∈l,FxOk x :=
 open_row default FnIn FxOk Tryz.underlying25 cellsFx (by decide) (fun n cs d hl h=>by
  obtain ⟨x,vb,rfl,hi,ok⟩:=openFx hl h
  exact ⟨x,ok,fun b o hb hc=>⟨vb,hc 0 (by omega),hc 1 (by omega),hi⟩⟩) hf
theorem open_tys {H:Type} {enc:TypeId × Value→H} {W:World} {n:Nat} {v:Value} {d:DataW H × List MemPlace} (hf:DataW.trod enc Tryz.prog W 0 (fun _=>true) true n 24 [v]=some d):∃ l:List Ty,TysAt W v l∧∀ x∈l,TyOk x:=by
 rcases Go.Deep.open_slice Tryz.underlying24 hf with ⟨hcs,_⟩ | ⟨a,l,c,m,n',D,Pl,hcs,_⟩
 ·obtain rfl:v=.slice none 0 0:=by simpa using hcs
  exact ⟨[],⟨none,0,rfl,by simp,(fun h=>by simp at h),(fun _=>rfl),by simp⟩,by simp⟩
 ·obtain rfl:v=.slice (some a) l c:=by simpa using hcs
  obtain ⟨t,h1,_,h3⟩:=TyOpen.open_tys_at (enc:=enc) (d:=d.1) (p:=d.2) ⟨n,by simpa [Value.cells] using hf⟩
  exact ⟨t,h1,h3⟩
theorem cellsPx:Tryz.prog.cellsOf 27=2:=by kernel_rfl
theorem shapePx:(match Tryz.prog.underlying 27 with
  | some (.struct fs)=>fs.toList.map fun f=>(f.type,f.offset)
  | _=>[])=[(24,0),(25,1)]:=by kernel_rfl
theorem strPx:∃ f0 f1:Field,Tryz.prog.underlying 27=some (.struct #[f0,f1])∧(f0.type=24∧f0.offset=0)∧(f1.type=25∧f1.offset=1):=by
 have h:=shapePx
 generalize Tryz.prog.underlying 27=u at h
 cases u with
 | none=>simp at h
 | some d =>
  cases d with
  | struct fs =>
   obtain ⟨l⟩:=fs
   rcases l with _ | ⟨f0,_ | ⟨f1,_ | ⟨g,r⟩⟩⟩
   ·simp at h
   ·simp at h
   ·simp at h
    exact ⟨f0,f1,rfl,h.1,h.2⟩
   ·simp at h
  | _=>simp at h
theorem openPx {H:Type} {enc:TypeId × Value→H} {W:World} {cs:List Value} {d:DataW H × List MemPlace} {n:Nat} (hl:cs.length=2) (h:DataW.trod enc Tryz.prog W 0 (fun _=>true) true n 27 cs=some d) :
  ∃ (x:Px) (vt vf:Value),cs=[vt,vf]∧TysAt W vt x.types∧FnsAt W vf x.funcs∧(∀ y∈x.types,TyOk y)∧∀ y∈x.funcs,FxOk y:=by
 obtain ⟨f0,f1,hu,⟨t0,o0⟩,⟨t1,o1⟩⟩:=strPx
 obtain ⟨xs,k,hk,hxy,_,hxl,hff⟩:=DataW.trod_struct hu h
 match xs,hxl,cs,hl with
 | [y0,y1],_,[v0,v1],_ =>
  have g0:=hff 0 f0 rfl
  simp [o0,t0,cellsTys] at g0
  obtain ⟨x0,i0,w0⟩:=open_tys g0
  have g1:=hff 1 f1 rfl
  simp [o1,t1,cellsFns] at g1
  obtain ⟨x1,i1,w1⟩:=open_fns g1
  exact ⟨⟨x0,x1⟩,_,_,rfl,i0,i1,w0,w1⟩

/-! the arguments themselves -/
theorem agg_eq {cs:Array Value} {l:List Value} (h:(Value.agg cs).cells.toList=l):Value.agg cs=.agg l.toArray:=by
 subst h
 simp [Value.cells]
theorem open_prog_at {H:Type} {enc:TypeId × Value→H} {W:World} {v:Value} {d:DataW H} {p:List MemPlace} (hv:∃ base,Value.okWide Tryz.prog W .any base 27 v)
  (h:DataW.Trod enc Tryz.prog W 0 (fun _=>true) true 27 v d p):∃ x:Px,PrAt W v x∧(∀ y∈x.types,TyOk y)∧∀ y∈x.funcs,FxOk y:=by
 obtain ⟨f0,f1,hu,_⟩:=strPx
 obtain ⟨base,hv⟩:=hv
 obtain ⟨cs,rfl,hsz⟩:=okWide_struct hu hv
 obtain ⟨fuel,hf⟩:=h
 rw [cellsPx] at hsz
 obtain ⟨x,vt,vf,hx,ht,hf,ok,ok2⟩:=openPx (cs:=(Value.agg cs).cells.toList) (by simpa [Value.cells] using hsz) hf
 exact ⟨x,⟨vt,vf,agg_eq hx,ht,hf⟩,ok,ok2⟩
end Go.Proofs.YtpejpnffcepdlaaGreatDoor.ShOpen
