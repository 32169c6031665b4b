/- Plain facts for the laws of layer 10: rulers of those ahead, from ruler to ruler, what is set further on. What layer 11 answers of a program, in plain: the registers that live at a place, and at a block's end. Plain facts: what the reference's Lives and atEnd do to a row of bools, step by step; which registers they meet. Plain facts for ShapeBack: where a register lies, and the next one. Walks over the reference's below, mayN, mayEnd, mayFunc, Check (fescueref06). A walk over fescueref09.Ahead. Walk over the reference's Number (fescueref06). Walks over the reference's asked, Count, Regs (fescueref06). Walks over the reference's Where, Place (fescueref06). Walk over fescueref10.IsSet. Plain facts: of a function that is well formed, what lives at a place is set there. -/
import Derived.Test.YtpejpnffcepdlaaGreatDoorYFvEToFdK
import Derived.Test.YtpejpnffcepdlaaGreatDoorYShIToFvEU
import Derived.Test.YtpejpnffcepdlaaGreatDoorYShEToShER
import Derived.Test.YtpejpnffcepdlaaGreatDoorYTyBToTyTI
import Derived.LoopTactic
import Derived.Test.YtpejpnffcepdlaaGreatDoorYShBToShW
import Derived.Test.YtpejpnffcepdlaaGreatDoorYTyMToShN
import Derived.BigGuardPart
import Derived.Deep.Cut
import Derived.Deep.DeepCutAuto
import Derived.Test.YtpejpnffcepdlaaGreatDoorYShFToShRV
import Derived.Test.YtpejpnffcepdlaaGreatDoorYIntOToSwXd
import Derived.Test.YtpejpnffcepdlaaGreatDoorYTyRB
import Derived.Test.YtpejpnffcepdlaaGreatDoorYRwHToShTB
import Derived.Test.YtpejpnffcepdlaaGreatDoorYFwRToTyRT
set_option maxRecDepth 100000
set_option maxHeartbeats 16000000
namespace Go.Proofs.YtpejpnffcepdlaaGreatDoor.FeP
open TyM ShM ShP ShE ShH ShI ShN ShJ ShK ShL FwM FwC FwP FwQ FwB FdM FdQ

structure At (p:Px) (f b:Int) (j:Nat):Prop where
 eq:b=j
 lt:j < (blsP p f).length
 low:Low (blsP p f)
 pos:0 < (blsP p f).length
 few:(blsP p f).length≤16
/-! laws -/
/-! those ahead -/
section
variable {t:Nat→List Nat}
end
/-! from ruler to ruler -/
/-! what is set further on -/
end Go.Proofs.YtpejpnffcepdlaaGreatDoor.FeP
namespace Go.Proofs.YtpejpnffcepdlaaGreatDoor.LvQ
open TyM ShM ShP ShE ShH ShI ShN ShJ ShK ShL FwM FwC FwP FwQ FdQ FxL LvM

def ownN (par:Nat) (l:List Bx) (b k:Nat):Nat:=par+manyB (l.take b)+k
def begX (par:Nat) (l:List Bx) (r:Nat):Nat→Bool:=rnd (inB l (ownN par l) r) l.length
def endB (par:Nat) (l:List Bx) (b r:Nat):Bool:=outB l r (begX par l r) b
end Go.Proofs.YtpejpnffcepdlaaGreatDoor.LvQ
namespace Go.Proofs.YtpejpnffcepdlaaGreatDoor.LuM
open TyM ShM ShP ShE ShH ShI ShN ShJ FwM FwC FwP FwQ FdQ FxL LvM LvQ

structure Regs (N:Nat) (l:List Bx):Prop where
 uses:∀ b∈l,∀ x∈b.ins,∀ r∈usesOf x,0≤r∧r < N
 ends:∀ b∈l,∀ r∈endsOf b.en,0≤r∧r < N
 phi:∀ b∈l,∀ x∈b.ins,x.op=22→x.frm.length=x.args.length∧∀ r∈x.args,0≤r∧r < N
 other:∀ b∈l,∀ x∈b.ins,x.op≠22→x.frm=[]
 few:∀ b∈l,∀ x∈b.ins,x.args.length≤16
 many:manyB l≤128
theorem fewer {l:List Bx} {b:Bx} (h:b∈l):b.ins.length≤manyB l:=by
 induction l with
 | nil=>cases h
 | cons c l ih =>
  rw [manyB_cons]
  rcases List.mem_cons.1 h with rfl | h
  ·omega
  ·have:=ih h;omega
theorem low_mem {n r:Int} {L:List Int} (h:lowB n L=true) (hr:r∈L):0≤r∧r < n:=by
 unfold lowB at h
 have:=List.all_eq_true.1 h r hr
 simpa using this
theorem regs_of {p:Px} {f:Fx} (h:chkP p=0) (ho:POk p) (hf:f∈p.funcs):Regs (parOf p.types f.sig+manyB f.blocks) f.blocks:=by
 unfold chkP at h
 split at h
 ·rename_i hc;exact absurd h hc
 split at h
 ·exact absurd h (by decide)
 split at h
 ·rename_i hall
  have hmf:=List.all_eq_true.1 hall f hf
  unfold mayF at hmf
  split at hmf
  ·cases hmf
  split at hmf
  ·cases hmf
  split at hmf
  ·cases hmf
  rename_i hbl
  have hi:∀ b∈f.blocks,∀ x∈b.ins,mayIR p.types.length ((parOf p.types f.sig+manyB f.blocks:Nat):Int) p.funcs.length f.blocks.length x=true:=by
   intro b hb x hx
   have hbb:=List.all_eq_true.1 hmf b hb
   unfold mayBl at hbb
   simp only [Bool.and_eq_true] at hbb
   have:=List.all_eq_true.1 hbb.2 x hx
   rwa [mayI_eq ((ho f hf b hb).2 x hx).1] at this
  have he:∀ b∈f.blocks,mayER ((parOf p.types f.sig+manyB f.blocks:Nat):Int) f.blocks.length b.en=true:=by
   intro b hb
   have hbb:=List.all_eq_true.1 hmf b hb
   unfold mayBl at hbb
   simp only [Bool.and_eq_true] at hbb
   have:=hbb.1
   rwa [mayE_eq (ho f hf b hb).1.1] at this
  have hu:∀ b∈f.blocks,∀ x∈b.ins,lowB ((parOf p.types f.sig+manyB f.blocks:Nat):Int) (usesOf x)=true:=by
   intro b hb x hx
   have h1:=hi b hb x hx
   unfold mayIR at h1
   split at h1
   ·cases h1
   rename_i hn
   cases e:lowB ((parOf p.types f.sig+manyB f.blocks:Nat):Int) (usesOf x) with
   | true=>rfl
   | false=>exact absurd (.inr (.inr (.inl e))) hn
  have hphi:∀ b∈f.blocks,∀ x∈b.ins,(x.op=22→x.frm.length=x.args.length∧x.frm.length≤16)∧(x.op≠22→x.frm=[]∧x.args.length≤4):=by
   intro b hb x hx
   have h1:=hi b hb x hx
   unfold mayIR at h1
   split at h1
   ·cases h1
   split at h1
   ·cases h1
   split at h1
   ·cases h1
   split at h1
   ·rename_i h22
    simp only [Bool.and_eq_true,decide_eq_true_eq] at h1
    exact ⟨fun _=>⟨h1.1.1,h1.1.2.2⟩,fun e=>absurd h22 e⟩
   ·rename_i h22
    have h2:=of_decide_eq_true h1
    exact ⟨fun e=>absurd e h22,fun _=>⟨List.eq_nil_of_length_eq_zero h2.1,h2.2⟩⟩
  refine ⟨fun b hb x hx r hr=>low_mem (hu b hb x hx) hr,fun b hb r hr=>?_,fun b hb x hx h22=>⟨((hphi b hb x hx).1 h22).1,fun r hr=>low_mem (hu b hb x hx) ?_⟩,fun b hb x hx h22=>((hphi b hb x hx).2 h22).1,fun b hb x hx=>?_,by omega⟩
  ·have h1:=he b hb
   unfold mayER at h1
   unfold endsOf at hr
   split at hr
   ·rename_i hk
    obtain rfl:=List.mem_singleton.1 hr
    split at h1
    ·rename_i e;omega
    split at h1
    ·simp only [Bool.and_eq_true] at h1
     exact low_mem h1.1 (by simp)
    split at h1
    ·simp only [Bool.and_eq_true] at h1
     exact low_mem h1.2 (by simp)
    ·cases h1
   ·cases hr
  ·have ha:argsB x.op=true:=by rw [h22];decide
   unfold usesOf
   rw [if_pos ha]
   simp [hr]
  ·by_cases e:x.op=22
   ·have:=(hphi b hb x hx).1 e;omega
   ·have:=(hphi b hb x hx).2 e;omega
 ·exact absurd h (by decide)

/-! bools, step by step -/
def seen (x:Ix):List Int:=if x.op=22 then [] else usesOf x
/-! at a block's end: one that comes behind it after the other -/
/-! the rounds -/
end Go.Proofs.YtpejpnffcepdlaaGreatDoor.LuM
namespace Go.Proofs.YtpejpnffcepdlaaGreatDoor.ShBP
open Go.RowKit Go.Lib SetP IntO TyM TyP TyB TyC ShM ShP ShA ShB ShC ShE ShQ ShF ShG ShH ShI ShJ ShK ShL

theorem locate_spec:∀ (l:List Bx) (n:Nat),n < manyB l→∃ (j i:Nat) (h:j < l.length),locate l n=(j,i)∧manyB (l.take j)+i=n∧i < l[j].ins.length
 | [],n,h=>by simp [manyB_nil] at h
 | b :: l,n,h=>by
  by_cases hb:n < b.ins.length
  ·exact ⟨0,n,by simp,by unfold locate;rw [if_pos hb],by simp [manyB_nil],by simpa using hb⟩
  ·rw [manyB_cons] at h
   obtain ⟨j,i,hj,h1,h2,h3⟩:=locate_spec l (n - b.ins.length) (by omega)
   refine ⟨j+1,i,by simpa using hj,by unfold locate;rw [if_neg hb,h1],?_,by simpa using h3⟩
   rw [List.take_succ_cons,manyB_cons];omega
theorem many_mono (l:List Bx) {a b:Nat} (h:a≤b):manyB (l.take a)≤manyB (l.take b):=by
 have:=manyB_le (l.take b) a
 rwa [List.take_take,Nat.min_eq_left h] at this
theorem back_in {p:Px} {f:Int} {k n:Nat} {x:Fx} {j i:Nat} (hz:findP p f=0) (h1:Has1 p f k x) (hn:n < manyB x.blocks) (hl:locate x.blocks n=(j,i)):placeE p f ((parOf p.types x.sig+n:Nat):Int)=0∧placeB p f ((parOf p.types x.sig+n:Nat):Int)=j∧placeI p f ((parOf p.types x.sig+n:Nat):Int)=i:=by
 have he:placeE p f ((parOf p.types x.sig+n:Nat):Int)=0:=by
  unfold placeE
  rw [if_neg (fun e=>e hz),cnt_at h1,if_pos ⟨by omega,by omega⟩]
 have ht:(((parOf p.types x.sig+n:Nat):Int) - (parOf p.types x.sig:Nat)).toNat=n:=by omega
 refine ⟨he,?_,?_⟩
 ·unfold placeB
  rw [he,if_neg (fun e=>e rfl),fn_eq h1,if_neg (by omega),ht,hl]
 ·unfold placeI
  rw [he,if_neg (fun e=>e rfl),fn_eq h1,if_neg (by omega),ht,hl]
end Go.Proofs.YtpejpnffcepdlaaGreatDoor.ShBP
namespace Go.Proofs.YtpejpnffcepdlaaGreatDoor.ShRA
open Go.RowKit Go.Lib SetP IntO TyM TyP TyB TyC TyD TyRA ShM ShP ShA ShB ShC ShE

theorem belowR_calls (m:Int) (v:Value) (l:List Int) (w:World) (hl:IntsAt w v l) :
  Calls Tryz.prog 168 #[v,.int .i64 m] w (BoolR (lowB m l) w):=by
 have HL:=hid hl
 obtain ⟨ao,cap,rfl,hlen⟩:=ints_slice hl
 clear hl
 have HBAD:=hid (fun k (hk:k < l.length)=>all_bad (p:=fun n=>decide (0≤n∧n < m)) hk)
 have HSUC:=hid (fun k (hk:k < l.length)=>all_succ (p:=fun n=>decide (0≤n∧n < m)) hk)
 have HD:Hid (lowB m l=l.all fun n=>decide (0≤n∧n < m)):=rfl
 go_enter Tryz.func168,Tryz.ntmps168
 go_wp2
 go_loop [5] (fun i=>∃ k:Nat,k≤l.length∧i=.int .i64 k∧((l.take k).all fun n=>decide (0≤n∧n < m))=true) (fun i=>l.length - (intOf i).toNat)
 case atStart=>exact ⟨0,by omega,rfl,rfl⟩
 case round =>
  obtain ⟨k,hk,rfl,hall⟩:=hrel
  have HA:=hid hall
  clear hall
  by_cases hlt:k < l.length
  ·obtain ⟨b,off,rfl,hbs,hc⟩:=TyP.ints_at HL.out k hlt
   have H1:=hid (HBAD.out k hlt)
   have H2:=hid (HSUC.out k hlt HA.out)
   generalize l[k]=n at *
   by_cases h0:n < 0
   ·have HE:=hid (H1.out (decide_eq_false (by omega)))
    go_wp2
    go_ret
    exact ⟨by rw [HD.out,HE.out];rfl,Below.refl _ _⟩
   by_cases h1:m≤n
   ·have HE:=hid (H1.out (decide_eq_false (by omega)))
    go_wp2
    go_ret
    exact ⟨by rw [HD.out,HE.out];rfl,Below.refl _ _⟩
   have HE:=hid (H2.out (decide_eq_true (by omega)))
   go_wp2
   go_round
   case rel=>exact ⟨k+1,by omega,by go_num,HE.out⟩
   case measure=>simp [intOf];omega
  ·obtain rfl:k=l.length:=by omega
   go_wp2
   go_ret
   exact ⟨by rw [HD.out];have:=HA.out;rw [List.take_length] at this;rw [this];rfl,Below.refl _ _⟩
end Go.Proofs.YtpejpnffcepdlaaGreatDoor.ShRA

namespace Go.Proofs.YtpejpnffcepdlaaGreatDoor.ShRB
open Go.RowKit Go.Lib RwO SetP IntO TyM TyP TyB TyC TyRA ShM ShP ShA ShB ShC ShE ShRA

theorem later {W:World} {n:Nat} {a:Addr} {v:Value} (h:W.cell? a=some v) (hn:a.block < n):∀ w',Below n W w'→w'.cell? a=some v:=fun _ hb=>(hb.cell hn).trans h
theorem two_below (w:World) (a b:Obj):Below w.heap.size w ((w.alloc a).alloc b):=(alloc_below _ _).alloc (by simp) _

theorem mayN_calls (x:Ix) (vt:Value) (fa:Option Addr) (nf fc:Nat) (va vf:Value) (w:World) (hvt:∃ a n c,vt=.slice a n c) (hva:∃ a n c,va=.slice a n c) (hvf:∃ a n c,vf=.slice a n c) :
  Calls Tryz.prog 169 #[.agg #[vt,.slice fa nf fc],ixV x va vf] w (BoolR (mayNR nf x) w):=by
 obtain ⟨a1,n1,c1,rfl⟩:=hvt
 obtain ⟨a2,n2,c2,rfl⟩:=hva
 obtain ⟨a3,n3,c3,rfl⟩:=hvf
 obtain ⟨op,typ,xa,xb,xn,al,fl⟩:=x
 have hb0:=two_below w (.cells #[.slice a1 n1 c1,.slice fa nf fc] 27) (.cells #[.int .u8 op,.int .i64 typ,.int .i64 xa,.int .i64 xb,.int .i64 xn,.slice a2 n2 c2,.slice a3 n3 c3] 31)
 unfold mayNR
 simp only
 by_cases h1:op=1
 ·rw [if_pos h1]
  subst h1
  go_enter Tryz.func169,Tryz.ntmps169
  go_wp2
  go_ret
  exact ⟨rfl,hb0⟩
 rw [if_neg h1]
 have e1:(op == 1)=false:=by simpa using h1
 by_cases h3:op=3∨op=18
 ·rw [if_pos h3]
  have e3:(op == 3)=true∨((op == 3)=false∧(op == 18)=true):=by simp;omega
  clear h3 h1
  by_cases h4:0≤xn
  ·by_cases h5:xn < nf
   ·rw [decide_eq_true ⟨h4,h5⟩]
    rcases e3 with e3 | ⟨e3,e4⟩
    ·go_enter Tryz.func169,Tryz.ntmps169
     go_wp2
     go_ret
     exact ⟨rfl,hb0⟩
    ·go_enter Tryz.func169,Tryz.ntmps169
     go_wp2
     go_ret
     exact ⟨rfl,hb0⟩
   ·rw [decide_eq_false (fun h=>h5 h.2)]
    rcases e3 with e3 | ⟨e3,e4⟩
    ·go_enter Tryz.func169,Tryz.ntmps169
     go_wp2
     go_ret
     exact ⟨rfl,hb0⟩
    ·go_enter Tryz.func169,Tryz.ntmps169
     go_wp2
     go_ret
     exact ⟨rfl,hb0⟩
  ·rw [decide_eq_false (fun h=>h4 h.1)]
   rcases e3 with e3 | ⟨e3,e4⟩
   ·go_enter Tryz.func169,Tryz.ntmps169
    go_wp2
    go_ret
    exact ⟨rfl,hb0⟩
   ·go_enter Tryz.func169,Tryz.ntmps169
    go_wp2
    go_ret
    exact ⟨rfl,hb0⟩
 rw [if_neg h3]
 have e3:(op == 3)=false:=by simp;omega
 have e18:(op == 18)=false:=by simp;omega
 by_cases h14:op=14
 ·rw [if_pos h14]
  subst h14
  clear h1 h3
  by_cases h4:0≤xn
  ·by_cases h5:xn < 8
   ·rw [decide_eq_true ⟨h4,h5⟩]
    go_enter Tryz.func169,Tryz.ntmps169
    go_wp2
    go_ret
    exact ⟨rfl,hb0⟩
   ·rw [decide_eq_false (fun h=>h5 h.2)]
    go_enter Tryz.func169,Tryz.ntmps169
    go_wp2
    go_ret
    exact ⟨rfl,hb0⟩
  ·rw [decide_eq_false (fun h=>h4 h.1)]
   go_enter Tryz.func169,Tryz.ntmps169
   go_wp2
   go_ret
   exact ⟨rfl,hb0⟩
 rw [if_neg h14]
 have e14:(op == 14)=false:=by simpa using h14
 clear h1 h3 h14
 have hd:(xn == 0)=decide (xn=0):=by rw [Bool.eq_iff_iff];simp
 go_enter Tryz.func169,Tryz.ntmps169
 go_wp2
 go_ret
 exact ⟨by simp,hb0⟩

theorem mayIns_calls (x:Ix) (ta:Option Addr) (nt tc:Nat) (fa:Option Addr) (nf fc:Nat) (nr nb:Int) (va vf:Value) (w:World) (h0:0≤x.op∧x.op≤255) (ha:IntsAt w va x.args) (hf:IntsAt w vf x.frm) (hla:x.args.length≤20000) :
  Calls Tryz.prog 123 #[.agg #[.slice ta nt tc,.slice fa nf fc],ixV x va vf,.int .i64 nr,.int .i64 nb] w (BoolR (mayIR nt nr nf nb x) w):=by
 have hb0:=two_below w (.cells #[.slice ta nt tc,.slice fa nf fc] 27) (.cells #[.int .u8 x.op,.int .i64 x.typ,.int .i64 x.a,.int .i64 x.b,.int .i64 x.n,va,vf] 31)
 obtain ⟨W0,hW0⟩:∃ W0,W0=(w.alloc (.cells #[.slice ta nt tc,.slice fa nf fc] 27)).alloc (.cells #[.int .u8 x.op,.int .i64 x.typ,.int .i64 x.a,.int .i64 x.b,.int .i64 x.n,va,vf] 31):=⟨_,rfl⟩
 obtain ⟨n0,hn0⟩:∃ n0,n0=W0.heap.size:=⟨_,rfl⟩
 have hn2:n0=w.heap.size+2:=by rw [hn0,hW0];simp only [World.size_alloc]
 have hbW:Below w.heap.size w W0:=by rw [hW0];exact hb0
 have k1:W0.heap[w.heap.size]?=some (.cells #[.slice ta nt tc,.slice fa nf fc] 27 (0,0)):=by rw [hW0];exact alloc_old (alloc_new _ _) _
 have k2:W0.heap[w.heap.size+1]?=some (.cells #[.int .u8 x.op,.int .i64 x.typ,.int .i64 x.a,.int .i64 x.b,.int .i64 x.n,va,vf] 31 (0,0)):=by
  rw [hW0]
  have:=alloc_new (w.alloc (.cells #[.slice ta nt tc,.slice fa nf fc] 27)) (.cells #[.int .u8 x.op,.int .i64 x.typ,.int .i64 x.a,.int .i64 x.b,.int .i64 x.n,va,vf] 31)
  rwa [World.size_alloc] at this
 obtain ⟨c1,_⟩:=ShTB.cells_heap k1
 obtain ⟨c2,_⟩:=ShTB.cells_heap k2
 have p0:=c1 0 (by simp);have p1:=c1 1 (by simp)
 have q0:=c2 0 (by simp);have q1:=c2 1 (by simp);have q2:=c2 2 (by simp);have q3:=c2 3 (by simp);have q4:=c2 4 (by simp);have q5:=c2 5 (by simp);have q6:=c2 6 (by simp)
 simp only [List.getElem_toArray,List.getElem_cons_succ,List.getElem_cons_zero] at p0 p1 q0 q1 q2 q3 q4 q5 q6
 have l0:=later (n:=n0) p0 (by show w.heap.size < n0;omega);have l1:=later (n:=n0) p1 (by show w.heap.size < n0;omega)
 have m0:=later (n:=n0) q0 (by show w.heap.size+1 < n0;omega);have m1:=later (n:=n0) q1 (by show w.heap.size+1 < n0;omega);have m2:=later (n:=n0) q2 (by show w.heap.size+1 < n0;omega);have m3:=later (n:=n0) q3 (by show w.heap.size+1 < n0;omega);have m4:=later (n:=n0) q4 (by show w.heap.size+1 < n0;omega);have m5:=later (n:=n0) q5 (by show w.heap.size+1 < n0;omega);have m6:=later (n:=n0) q6 (by show w.heap.size+1 < n0;omega)
 have hff:∃ a n c,vf=.slice a n c:=by obtain ⟨a,c,h,_⟩:=ints_slice hf;exact ⟨_,_,_,h⟩
 have haf:∃ a n c,va=.slice a n c:=by obtain ⟨a,c,h,_⟩:=ints_slice ha;exact ⟨_,_,_,h⟩
 have HU:=hid (ShV.usesR_calls x va vf W0 h0.1 h0.2 (ha.below hbW) hla hff)
 have HB:=hid (fun (wx:World) (v:Value) (hv:IntsAt wx v (usesOf x))=>belowR_calls nr v (usesOf x) wx hv)
 have HN:=hid (fun wx=>mayN_calls x (.slice ta nt tc) fa nf fc va vf wx ⟨_,_,_,rfl⟩ haf hff)
 have HA:=hid (fun wx=>hasA_calls x.op h0.1 h0.2 wx)
 have HT:=hid (fun wx=>two_calls x.op h0.1 h0.2 wx)
 have HG:=hid (fun wx=>hasArgs_calls x.op h0.1 h0.2 wx)
 have HW:=hid (fun wx=>answersR_calls x.op h0.1 h0.2 wx)
 have HF:=hid (fun wx (hb:Below n0 W0 wx)=>belowR_calls nb vf x.frm wx ((hf.below hbW).below (by rw [← hn0];exact hb)))
 have HD:Hid (mayIR nt nr nf nb x=if x.op < 1∨22 < x.op∨lowB nr (usesOf x)=false∨mayNR nf x=false then false
  else if (hasAB x.op=false∧x.a≠0)∨(twoB x.op=false∧x.b≠0)∨(argsB x.op=false∧0 < x.args.length) then false
  else if (answersB x.op=true∧(x.typ < 0∨(nt:Int)≤x.typ))∨(answersB x.op=false∧x.typ≠0) then false
  else if x.op=22 then decide (x.frm.length=x.args.length∧1≤x.frm.length∧x.frm.length≤16) && lowB nb x.frm
  else decide (x.frm.length=0∧x.args.length≤4)):=rfl
 obtain ⟨aa,ac,rfl,_⟩:=ints_slice ha
 obtain ⟨ba,bc,rfl,_⟩:=ints_slice hf
 generalize mayIR nt nr nf nb x=ans at *
 generalize usesOf x=L at *
 generalize lowB nr L=U at *
 generalize mayNR nf x=N at *
 generalize hasAB x.op=A at *
 generalize twoB x.op=T at *
 generalize argsB x.op=G at *
 generalize answersB x.op=AN at *
 generalize lowB nb x.frm=F at *
 obtain ⟨op,typ,xa,xb,xn,al,fl⟩:=x
 simp only at *
 generalize al.length=la at *
 generalize fl.length=lf at *
 have HBW:=hid hbW
 have HN0:=hid hn0
 have HN2:=hid hn2
 have h00:=Below.refl n0 W0
 have HK1:=hid k1
 have HW0:=hid hW0
 clear hW0 ha hf hla c1 c2 p0 p1 q0 q1 q2 q3 q4 q5 q6 hbW hn0 hn2 k1 k2 hb0 hff haf
 by_cases o1:op < 1
 ·rw [if_pos (Or.inl o1)] at HD
  go_enter Tryz.func123,Tryz.ntmps123
  go_wp2
  go_ret
  exact ⟨by rw [HD.out];rfl,by rw [← HW0.out];exact HBW.out⟩
 by_cases o2:22 < op
 ·rw [if_pos (Or.inr (Or.inl o2))] at HD
  go_enter Tryz.func123,Tryz.ntmps123
  go_wp2
  go_ret
  exact ⟨by rw [HD.out];rfl,by rw [← HW0.out];exact HBW.out⟩
 cases U with
 | false =>
  rw [if_pos (Or.inr (Or.inr (Or.inl rfl)))] at HD
  go_enter Tryz.func123,Tryz.ntmps123
  go_wp2_with fail
  rw [← HW0.out]
  refine HU.out.mono ?_
  rintro e w1 ⟨u,m,rfl,hown,hb1⟩
  have h01:Below n0 W0 w1:=by rw [HN0.out];exact hb1
  have HB1:=hid (HB.out w1 u (intsAt_of_owns hown (by have:=own_len hown;have:=hown.1;rw [intVals_length] at this;omega)))
  obtain ⟨ua,uc,rfl⟩:=own_form hown
  clear hown hb1 HU
  go_wp2_with fail
  refine HB1.out.mono ?_
  rintro e w2 ⟨rfl,hb2⟩
  have h02:=h01.trans (hb2.mono (by have:=h01.size;have:=HN0.out;omega))
  clear hb2 HB1
  go_wp2
  go_ret
  exact ⟨by rw [HD.out];rfl,HBW.out.trans (h02.mono (by have:=HN2.out;omega))⟩
 | true =>
  cases N with
  | false =>
   rw [if_pos (Or.inr (Or.inr (Or.inr rfl)))] at HD
   go_enter Tryz.func123,Tryz.ntmps123
   go_wp2_with fail
   rw [← HW0.out]
   refine HU.out.mono ?_
   rintro e w1 ⟨u,m,rfl,hown,hb1⟩
   have h01:Below n0 W0 w1:=by rw [HN0.out];exact hb1
   have HB1:=hid (HB.out w1 u (intsAt_of_owns hown (by have:=own_len hown;have:=hown.1;rw [intVals_length] at this;omega)))
   obtain ⟨ua,uc,rfl⟩:=own_form hown
   clear hown hb1 HU
   go_wp2_with fail
   refine HB1.out.mono ?_
   rintro e w2 ⟨rfl,hb2⟩
   have h02:=h01.trans (hb2.mono (by have:=h01.size;have:=HN0.out;omega))
   clear hb2 HB1
   go_wp2_with fail
   refine (HN.out w2).mono ?_
   rintro e w3 ⟨rfl,hb3⟩
   have h03:=h02.trans (hb3.mono (by have:=h02.size;have:=HN0.out;omega))
   clear hb3 HN
   go_wp2
   go_ret
   exact ⟨by rw [HD.out];rfl,HBW.out.trans (h03.mono (by have:=HN2.out;omega))⟩
  | true =>
  rw [if_neg (by simp;omega)] at HD
  go_enter Tryz.func123,Tryz.ntmps123
  go_wp2_with fail
  rw [← HW0.out]
  refine HU.out.mono ?_
  rintro e w1 ⟨u,m,rfl,hown,hb1⟩
  have h01:Below n0 W0 w1:=by rw [HN0.out];exact hb1
  have HB1:=hid (HB.out w1 u (intsAt_of_owns hown (by have:=own_len hown;have:=hown.1;rw [intVals_length] at this;omega)))
  obtain ⟨ua,uc,rfl⟩:=own_form hown
  clear hown hb1 HU
  go_wp2_with fail
  refine HB1.out.mono ?_
  rintro e w2 ⟨rfl,hb2⟩
  have h02:=h01.trans (hb2.mono (by have:=h01.size;have:=HN0.out;omega))
  clear hb2 HB1
  go_wp2_with fail
  refine (HN.out w2).mono ?_
  rintro e w3 ⟨rfl,hb3⟩
  have h03:=h02.trans (hb3.mono (by have:=h02.size;have:=HN0.out;omega))
  clear hb3 HN
  go_upto_region 3 with fail
  obtain ⟨q1,hq1⟩:∃ q:Bool,q=((!A && (xa != 0)) || ((!T && (xb != 0)) || (!G && decide (0 < la)))):=⟨_,rfl⟩
  have HQ1:=hid hq1
  clear hq1
  go_cut [61] (fun p wc=>p=.bool q1∧w3=wc)
  case first =>
   clear HD HF HN2
   have hA3:(A=true∨(A=false∧(xa != 0)=false))∨(A=false∧(xa != 0)=true):=by cases A<;>cases (xa != 0)<;>simp
   have hT3:(T=true∨(T=false∧(xb != 0)=false))∨(T=false∧(xb != 0)=true):=by cases T<;>cases (xb != 0)<;>simp
   have hG3:(G=true∨(G=false∧¬ (0:Int) < la))∨(G=false∧(0:Int) < la):=by cases G<;>simp;omega
   rcases hA3 with hA | ⟨rfl,hxa⟩
   ·rcases hT3 with hT | ⟨rfl,hxb⟩
    ·rcases hA with rfl | ⟨rfl,hxa⟩<;>rcases hT with rfl | ⟨rfl,hxb⟩<;>rcases hG3 with (rfl | ⟨rfl,hl⟩) | ⟨rfl,hl⟩<;>(go_wp2_with (first | (go_at_call 170;refine (HA.out _).mono ?_;rintro e w4 ⟨rfl,rfl⟩) | (go_at_call 171;refine (HT.out _).mono ?_;rintro e w4 ⟨rfl,rfl⟩) | (go_at_call 172;refine (HG.out _).mono ?_;rintro e w4 ⟨rfl,rfl⟩) | (go_at_call 73;refine (HW.out _).mono ?_;rintro e w4 ⟨rfl,rfl⟩)))<;>(go_meet;case rel=>exact ⟨congrArg Value.bool (by rw [HQ1.out];simp [*];try omega),rfl⟩)
    ·clear hG3
     rcases hA with rfl | ⟨rfl,hxa⟩<;>(go_wp2_with (first | (go_at_call 170;refine (HA.out _).mono ?_;rintro e w4 ⟨rfl,rfl⟩) | (go_at_call 171;refine (HT.out _).mono ?_;rintro e w4 ⟨rfl,rfl⟩) | (go_at_call 172;refine (HG.out _).mono ?_;rintro e w4 ⟨rfl,rfl⟩) | (go_at_call 73;refine (HW.out _).mono ?_;rintro e w4 ⟨rfl,rfl⟩)))<;>(go_meet;case rel=>exact ⟨congrArg Value.bool (by rw [HQ1.out];simp [*]),rfl⟩)
   ·clear hT3 hG3
    go_wp2_with (first | (go_at_call 170;refine (HA.out _).mono ?_;rintro e w4 ⟨rfl,rfl⟩) | (go_at_call 171;refine (HT.out _).mono ?_;rintro e w4 ⟨rfl,rfl⟩) | (go_at_call 172;refine (HG.out _).mono ?_;rintro e w4 ⟨rfl,rfl⟩) | (go_at_call 73;refine (HW.out _).mono ?_;rintro e w4 ⟨rfl,rfl⟩))
    go_meet
    case rel=>exact ⟨congrArg Value.bool (by rw [HQ1.out];simp [*]),rfl⟩
  case rest =>
   obtain ⟨rfl,rfl⟩:=hcut
   cases q1 with
   | true =>
    have hq:(A=false∧xa≠0)∨(T=false∧xb≠0)∨(G=false∧0 < la):=by have:=HQ1.out;simpa using this
    rw [if_pos hq] at HD
    clear hq
    go_wp2<;>first | (exfalso;omega) | (go_ret;exact ⟨by rw [HD.out];rfl,HBW.out.trans (h03.mono (by have:=HN2.out;omega))⟩)
   | false =>
   have hq:¬ ((A=false∧xa≠0)∨(T=false∧xb≠0)∨(G=false∧0 < la)):=fun h=>by
    have:=HQ1.out
    cases A<;>cases T<;>cases G<;>simp at this h<;>omega
   rw [if_neg hq] at HD
   clear hq HQ1
   go_upto_region 5 with fail
   obtain ⟨q2,hq2⟩:∃ q:Bool,q=((AN && (decide (typ < 0) || decide ((nt:Int)≤typ))) || (!AN && (typ != 0))):=⟨_,rfl⟩
   have HQ2:=hid hq2
   clear hq2
   go_cut [88] (fun p wc=>p=.bool q2∧w3=wc)
   case first =>
    clear HD HF HN2
    cases AN with
    | true =>
     by_cases t0:typ < 0
     ·(go_wp2_with (first | (go_at_call 170;refine (HA.out _).mono ?_;rintro e w4 ⟨rfl,rfl⟩) | (go_at_call 171;refine (HT.out _).mono ?_;rintro e w4 ⟨rfl,rfl⟩) | (go_at_call 172;refine (HG.out _).mono ?_;rintro e w4 ⟨rfl,rfl⟩) | (go_at_call 73;refine (HW.out _).mono ?_;rintro e w4 ⟨rfl,rfl⟩)))<;>first | (exfalso;omega) | (go_meet;case rel=>exact ⟨congrArg Value.bool (by rw [HQ2.out];simp [*]),rfl⟩)
     ·by_cases t1:(nt:Int)≤typ
      ·(go_wp2_with (first | (go_at_call 170;refine (HA.out _).mono ?_;rintro e w4 ⟨rfl,rfl⟩) | (go_at_call 171;refine (HT.out _).mono ?_;rintro e w4 ⟨rfl,rfl⟩) | (go_at_call 172;refine (HG.out _).mono ?_;rintro e w4 ⟨rfl,rfl⟩) | (go_at_call 73;refine (HW.out _).mono ?_;rintro e w4 ⟨rfl,rfl⟩)))<;>first | (exfalso;omega) | (go_meet;case rel=>exact ⟨congrArg Value.bool (by rw [HQ2.out];simp [*]),rfl⟩)
      ·(go_wp2_with (first | (go_at_call 170;refine (HA.out _).mono ?_;rintro e w4 ⟨rfl,rfl⟩) | (go_at_call 171;refine (HT.out _).mono ?_;rintro e w4 ⟨rfl,rfl⟩) | (go_at_call 172;refine (HG.out _).mono ?_;rintro e w4 ⟨rfl,rfl⟩) | (go_at_call 73;refine (HW.out _).mono ?_;rintro e w4 ⟨rfl,rfl⟩)))<;>first | (exfalso;omega) | (go_meet;case rel=>exact ⟨congrArg Value.bool (by rw [HQ2.out];simp;omega),rfl⟩)
    | false =>
     cases ht:(typ != 0) with
     | true =>
      (go_wp2_with (first | (go_at_call 170;refine (HA.out _).mono ?_;rintro e w4 ⟨rfl,rfl⟩) | (go_at_call 171;refine (HT.out _).mono ?_;rintro e w4 ⟨rfl,rfl⟩) | (go_at_call 172;refine (HG.out _).mono ?_;rintro e w4 ⟨rfl,rfl⟩) | (go_at_call 73;refine (HW.out _).mono ?_;rintro e w4 ⟨rfl,rfl⟩)))<;>first | (exfalso;omega) | (go_meet;case rel=>exact ⟨congrArg Value.bool (by rw [HQ2.out,ht];rfl),rfl⟩)
     | false =>
      (go_wp2_with (first | (go_at_call 170;refine (HA.out _).mono ?_;rintro e w4 ⟨rfl,rfl⟩) | (go_at_call 171;refine (HT.out _).mono ?_;rintro e w4 ⟨rfl,rfl⟩) | (go_at_call 172;refine (HG.out _).mono ?_;rintro e w4 ⟨rfl,rfl⟩) | (go_at_call 73;refine (HW.out _).mono ?_;rintro e w4 ⟨rfl,rfl⟩)))<;>first | (exfalso;omega) | (go_meet;case rel=>exact ⟨congrArg Value.bool (by rw [HQ2.out,ht];rfl),rfl⟩)
   case rest =>
    obtain ⟨rfl,rfl⟩:=hcut
    cases q2 with
    | true =>
     have hq:(AN=true∧(typ < 0∨(nt:Int)≤typ))∨(AN=false∧typ≠0):=by have:=HQ2.out;simpa using this
     rw [if_pos hq] at HD
     clear hq
     go_wp2<;>first | (exfalso;omega) | (go_ret;exact ⟨by rw [HD.out];rfl,HBW.out.trans (h03.mono (by have:=HN2.out;omega))⟩)
    | false =>
    have hq:¬ ((AN=true∧(typ < 0∨(nt:Int)≤typ))∨(AN=false∧typ≠0)):=fun h=>by
     have:=HQ2.out
     cases AN<;>simp at this h<;>omega
    rw [if_neg hq] at HD
    clear hq HQ2
    have HBE:=hid (HBW.out.trans (h03.mono (by have:=HN2.out;omega)))
    by_cases o22:op=22
    ·rw [if_pos o22] at HD
     subst o22
     by_cases e1:lf=la
     ·by_cases e2:1≤lf
      ·by_cases e3:lf≤16
       ·have HFC:=hid (HF.out _ h03)
        rw [decide_eq_true ⟨e1,e2,e3⟩] at HD
        subst e1
        have e4:(1:Int)≤lf:=by omega
        have e5:(lf:Int)≤16:=by omega
        clear HF e2 e3
        go_wp2_with fail
        refine HFC.out.mono ?_
        rintro e w4 ⟨rfl,hb4⟩
        have hbe4:=HBE.out.trans (hb4.mono HBE.out.size)
        clear hb4 HFC
        go_wp2<;>first | (exfalso;omega) | (go_ret;exact ⟨by rw [HD.out];rfl,hbe4⟩)
       ·rw [decide_eq_false (fun h=>e3 h.2.2)] at HD
        subst e1
        have e4:(1:Int)≤lf:=by omega
        have e5:¬ (lf:Int)≤16:=by omega
        clear HF e2 e3
        go_wp2<;>first | (exfalso;omega) | (go_ret;exact ⟨by rw [HD.out];rfl,HBE.out⟩)
      ·rw [decide_eq_false (fun h=>e2 h.2.1)] at HD
       subst e1
       have e4:¬ (1:Int)≤lf:=by omega
       clear HF e2
       go_wp2<;>first | (exfalso;omega) | (go_ret;exact ⟨by rw [HD.out];rfl,HBE.out⟩)
     ·rw [decide_eq_false (fun h=>e1 h.1)] at HD
      have e4:((lf:Int) == (la:Int))=false:=by simp;omega
      clear HF e1
      go_wp2<;>first | (exfalso;omega) | (go_ret;exact ⟨by rw [HD.out];rfl,HBE.out⟩)
    ·rw [if_neg o22] at HD
     have e22:(op == 22)=false:=by simpa using o22
     by_cases e1:lf=0
     ·have e4:((lf:Int) == 0)=true:=by simp;omega
      by_cases e2:la≤4
      ·have e3:(la:Int)≤4:=by omega
       rw [decide_eq_true ⟨e1,e2⟩] at HD
       clear HF e1 e2 o22
       go_wp2<;>first | (exfalso;omega) | (go_ret;exact ⟨by rw [HD.out];rfl,HBE.out⟩)
      ·have e3:¬ (la:Int)≤4:=by omega
       rw [decide_eq_false (fun h=>e2 h.2)] at HD
       clear HF e1 e2 o22
       go_wp2<;>first | (exfalso;omega) | (go_ret;exact ⟨by rw [HD.out];rfl,HBE.out⟩)
     ·have e4:((lf:Int) == 0)=false:=by simp;omega
      rw [decide_eq_false (fun h=>e1 h.1)] at HD
      clear HF e1 o22
      go_wp2<;>first | (exfalso;omega) | (go_ret;exact ⟨by rw [HD.out];rfl,HBE.out⟩)
end Go.Proofs.YtpejpnffcepdlaaGreatDoor.ShRB

namespace Go.Proofs.YtpejpnffcepdlaaGreatDoor.ShRC
open Go.RowKit Go.Lib RwO SetP IntO TyM TyP TyB TyC TyRA ShM ShP ShA ShB ShC ShE ShRA ShRB ShH Aft

theorem ints_two {w:World} {m:Nat} {a b:Int} (h:w.heap.size=m):IntsAt (w.alloc (.cells #[.int .i64 a,.int .i64 b] 3)) (.slice (some ⟨m,0,none⟩) 2 2) [a,b]:=by
 subst h
 exact intsAt_of_owns (l:=[a,b]) (ownsRow_lit w [.int .i64 a,.int .i64 b] 3 2 rfl (by unfold maxLen;omega)) (by simp)
theorem ints_new {w:World} {m:Nat} {a:Int} (h:w.heap.size=m):IntsAt (w.alloc (.cells #[.int .i64 a] 3)) (.slice (some ⟨m,0,none⟩) 1 1) [a]:=ints_one (cell_new _ _ _ _ h) (size_new _ _ _ h)

theorem mayEndR_calls (x:Ex) (nr nb:Int) (w:World):Calls Tryz.prog 124 #[exV x,.int .i64 nr,.int .i64 nb] w (BoolR (mayER nr nb x) w):=by
 obtain ⟨W,hW⟩:∃ W,W=w.alloc (.cells #[.int .u8 x.kind,.int .i64 x.a,.int .i64 x.to,.int .i64 x.els] 35):=⟨_,rfl⟩
 have hbW:Below w.heap.size w W:=by rw [hW];exact alloc_below _ _
 have hsW:W.heap.size=w.heap.size+1:=by rw [hW,World.size_alloc]
 have k1:W.heap[w.heap.size]?=some (.cells #[.int .u8 x.kind,.int .i64 x.a,.int .i64 x.to,.int .i64 x.els] 35 (0,0)):=by rw [hW];exact alloc_new _ _
 have m0:=later_cells k1 0 _ rfl;have m1:=later_cells k1 1 _ rfl;have m2:=later_cells k1 2 _ rfl;have m3:=later_cells k1 3 _ rfl
 have HB1:=hid (fun (wx:World) (m:Nat) (hm:wx.heap.size=m) (a lim:Int)=>belowR_calls lim (.slice (some ⟨m,0,none⟩) 1 1) [a] (wx.alloc (.cells #[.int .i64 a] 3)) (ints_new hm))
 have HB2:=hid (fun (wx:World) (m:Nat) (hm:wx.heap.size=m) (a b lim:Int)=>belowR_calls lim (.slice (some ⟨m,0,none⟩) 2 2) [a,b] (wx.alloc (.cells #[.int .i64 a,.int .i64 b] 3)) (ints_two hm))
 have HBW:=hid hbW
 have HW:=hid hW
 have HSW:=hid hsW
 have h0:=Aft.refl W
 clear hbW hW hsW k1
 obtain ⟨kd,xa,xt,xe⟩:=x
 simp only at *
 unfold mayER
 simp only
 by_cases k1:kd=1
 ·rw [if_pos k1]
  subst k1
  have hd:∀ b:Bool,(decide (xa=0∧xe=0) && b)=((xa == 0) && ((xe == 0) && b)):=fun b=>by rw [Bool.eq_iff_iff];simp [and_assoc]
  rw [hd]
  clear hd
  cases ha:(xa == 0) with
  | false =>
   go_enter Tryz.func124,Tryz.ntmps124
   go_wp2
   go_ret
   exact ⟨rfl,by rw [← HW.out];exact HBW.out⟩
  | true =>
   cases he:(xe == 0) with
   | false =>
    go_enter Tryz.func124,Tryz.ntmps124
    go_wp2
    go_ret
    exact ⟨rfl,by rw [← HW.out];exact HBW.out⟩
   | true =>
    have HC:=hid (HB1.out W _ rfl xt nb)
    generalize lowB nb [xt]=q at *
    rw [HSW.out] at HC
    go_enter Tryz.func124,Tryz.ntmps124
    go_wp2_with fail
    rw [← HW.out]
    refine HC.out.mono ?_
    rintro e w1 ⟨rfl,hb1⟩
    have h1:=(h0.alloc _).go hb1
    clear hb1 HC
    go_wp2
    go_ret
    exact ⟨rfl,h1.out HBW.out⟩
 rw [if_neg k1]
 have e1:(kd == 1)=false:=by simpa using k1
 by_cases k2:kd=2
 ·rw [if_pos k2]
  subst k2
  clear k1
  have HC:=hid (HB1.out W _ rfl xa nr)
  have HC2:=hid (fun wx=>HB2.out wx _ rfl xt xe nb)
  rw [HSW.out] at HC
  generalize lowB nr [xa]=q at *
  generalize lowB nb [xt,xe]=q2 at *
  cases q with
  | false =>
   go_enter Tryz.func124,Tryz.ntmps124
   go_wp2_with fail
   rw [← HW.out]
   refine HC.out.mono ?_
   rintro e w1 ⟨rfl,hb1⟩
   have h1:=(h0.alloc _).go hb1
   clear hb1 HC
   go_wp2
   go_ret
   exact ⟨rfl,h1.out HBW.out⟩
  | true =>
   go_enter Tryz.func124,Tryz.ntmps124
   go_wp2_with fail
   rw [← HW.out]
   refine HC.out.mono ?_
   rintro e w1 ⟨rfl,hb1⟩
   have h1:=(h0.alloc _).go hb1
   clear hb1 HC
   go_wp2_with fail
   refine (HC2.out w1).mono ?_
   rintro e w2 ⟨rfl,hb2⟩
   have h2:=(h1.alloc _).go hb2
   clear hb2 HC2
   go_wp2
   go_ret
   exact ⟨rfl,h2.out HBW.out⟩
 rw [if_neg k2]
 have e2:(kd == 2)=false:=by simpa using k2
 by_cases k3:kd=3
 ·rw [if_pos k3]
  subst k3
  clear k1 k2
  have hd:∀ b:Bool,(decide (xt=0∧xe=0) && b)=((xt == 0) && ((xe == 0) && b)):=fun b=>by rw [Bool.eq_iff_iff];simp [and_assoc]
  rw [hd]
  clear hd
  cases ha:(xt == 0) with
  | false =>
   go_enter Tryz.func124,Tryz.ntmps124
   go_wp2
   go_ret
   exact ⟨rfl,by rw [← HW.out];exact HBW.out⟩
  | true =>
   cases he:(xe == 0) with
   | false =>
    go_enter Tryz.func124,Tryz.ntmps124
    go_wp2
    go_ret
    exact ⟨rfl,by rw [← HW.out];exact HBW.out⟩
   | true =>
    have HC:=hid (HB1.out W _ rfl xa nr)
    generalize lowB nr [xa]=q at *
    rw [HSW.out] at HC
    go_enter Tryz.func124,Tryz.ntmps124
    go_wp2_with fail
    rw [← HW.out]
    refine HC.out.mono ?_
    rintro e w1 ⟨rfl,hb1⟩
    have h1:=(h0.alloc _).go hb1
    clear hb1 HC
    go_wp2
    go_ret
    exact ⟨rfl,h1.out HBW.out⟩
 rw [if_neg k3]
 have e3:(kd == 3)=false:=by simpa using k3
 clear k1 k2 k3
 go_enter Tryz.func124,Tryz.ntmps124
 go_wp2
 go_ret
 exact ⟨rfl,by rw [← HW.out];exact HBW.out⟩
end Go.Proofs.YtpejpnffcepdlaaGreatDoor.ShRC

namespace Go.Proofs.YtpejpnffcepdlaaGreatDoor.ShRF
open Go.RowKit Go.Lib RwO SetP IntO TyM TyP TyB TyC TyRA ShM ShP ShA ShB ShC ShE ShRA ShH ShI Aft

theorem mayFuncR_calls (t:List Ty) (nf:Nat) (f:Fx) (vt vb:Value) (fa:Option Addr) (fcap:Nat) (w:World) (ht:TysAt w vt t) (hb:BlksAt w vb f.blocks) (hsm:manyB f.blocks≤20000) (hpar:∀ x∈t,x.parts.length≤20000)
  (hok:∀ b∈f.blocks,(0≤b.en.kind∧b.en.kind≤255)∧∀ y∈b.ins,0≤y.op∧y.op≤255) (hag:∀ b∈f.blocks,∀ y∈b.ins,y.args.length≤20000) :
  Calls Tryz.prog 75 #[.agg #[vt,.slice fa nf fcap],fxV f vb] w (BoolR (mayF t nf f) w):=by
 obtain ⟨W,hW⟩:∃ W,W=(w.alloc (.cells #[vt,.slice fa nf fcap] 27)).alloc (.cells #[.int .i64 f.sig,vb] 41):=⟨_,rfl⟩
 have hbW:Below w.heap.size w W:=by rw [hW];exact ShRB.two_below _ _ _
 have k1:W.heap[w.heap.size]?=some (.cells #[vt,.slice fa nf fcap] 27 (0,0)):=by rw [hW];exact alloc_old (alloc_new _ _) _
 have k2:W.heap[w.heap.size+1]?=some (.cells #[.int .i64 f.sig,vb] 41 (0,0)):=by
  rw [hW]
  have:=alloc_new (w.alloc (.cells #[vt,.slice fa nf fcap] 27)) (.cells #[.int .i64 f.sig,vb] 41)
  rwa [World.size_alloc] at this
 have htW:=ht.below hbW
 have hbl:=hb.below blkStays hbW
 have HT:=hid ht
 have HBL:=hid hbl
 have HI:=hid (fun wx (hx:Aft W wx)=>many_calls vb f.blocks wx (hbl.below blkStays hx.below) (by omega))
 have HP:=hid (fun (h0:0≤f.sig) (h1:f.sig < t.length) wx (hx:Aft W wx)=>paramsR_calls t f vt (.slice fa nf fcap) vb wx (htW.below hx.below) ⟨_,_,_,rfl⟩ h0 h1 hbl.slice)
 have HOK:=hid hok
 have HAG:=hid hag
 obtain ⟨ta,tc,rfl⟩:=ht.slice
 obtain ⟨ba,bc,rfl,hbll⟩:=hb.slice
 have l0:=later_cells k1 0 _ rfl;have l1:=later_cells k1 1 _ rfl
 have m0:=later_cells k2 0 _ rfl;have m1:=later_cells k2 1 _ rfl
 have htl:t.length≤9223372036854775807:=by obtain ⟨_,_,_,h,_⟩:=ht;exact h
 have HD:Hid (mayF t nf f=if ¬ (0≤f.sig∧f.sig < t.length) then false
  else if kindAt t f.sig≠3 then false
  else if f.blocks.length < 1∨16 < f.blocks.length∨128 < manyB f.blocks then false
  else f.blocks.all (mayBl (limL t.length ((parOf t f.sig+manyB f.blocks:Nat):Int) nf f.blocks.length))):=rfl
 generalize mayF t nf f=ans at *
 have HBW:=hid hbW
 have HW:=hid hW
 have h0:=Aft.refl W
 clear ht hb hok hag hbW hW k1 k2 htW hbl
 by_cases hs:0≤f.sig∧f.sig < t.length
 rotate_left
 ·rw [if_pos hs] at HD
  have hs2:f.sig < 0∨(¬ f.sig < 0∧(t.length:Int)≤f.sig):=by omega
  clear HI HP HT HBL HOK HAG hpar hs
  obtain ⟨sg,bl⟩:=f
  simp only at *
  generalize t.length=n1 at *
  generalize bl.length=n3 at *
  rcases hs2 with s1 | ⟨s1,s2⟩
  ·go_enter Tryz.func75,Tryz.ntmps75
   go_wp2
   go_ret
   exact ⟨by rw [HD.out];rfl,by rw [← HW.out];exact HBW.out⟩
  ·go_enter Tryz.func75,Tryz.ntmps75
   go_wp2
   go_ret
   exact ⟨by rw [HD.out];rfl,by rw [← HW.out];exact HBW.out⟩
 obtain ⟨k,hk⟩:∃ k:Nat,f.sig=k:=⟨f.sig.toNat,by omega⟩
 have hkt:k < t.length:=by omega
 have hkind:kindAt t f.sig=t[k].kind:=by unfold kindAt;rw [hk,Int.toNat_natCast,List.getElem?_eq_getElem hkt];rfl
 rw [if_neg (fun h=>h hs),hkind] at HD
 obtain ⟨tb,off,rfl,hlt,pv,c0,z1,z2,z3,z4⟩:=HT.out.at k hkt
 have hsm2:parOf t f.sig+manyB f.blocks≤1000000:=by
  rw [hk,parOf_at hkt]
  have:=hpar _ (List.getElem_mem hkt)
  omega
 have HPP:=hid (HP.out hs.1 hs.2)
 have d0:=later ((HBW.out.cell (p:=⟨tb,off+k * 4,none⟩) hlt).trans c0)
 have HWR:=hid (sum_wrap hsm2)
 clear HP HT hpar hkind z1 z2 z3 z4
 generalize t[k].kind=kk at *
 clear hkt
 generalize parOf t f.sig=np at *
 generalize hnm:manyB f.blocks=nm at *
 have HNM:=hid hnm
 clear hnm
 have hsg:¬ f.sig < 0:=by omega
 have hsg2:¬ (t.length:Int)≤f.sig:=by omega
 have HHS:=hid hs
 by_cases hkk:kk=3
 rotate_left
 ·rw [if_pos hkk] at HD
  have e3:(kk != 3)=true:=by simpa using hkk
  clear HI HPP HBL HOK HAG hkk
  obtain ⟨sg,bl⟩:=f
  simp only at *
  generalize t.length=n1 at *
  generalize bl.length=n3 at *
  subst hk
  go_enter Tryz.func75,Tryz.ntmps75
  go_wp2
  go_ret
  exact ⟨by rw [HD.out];rfl,by rw [← HW.out];exact HBW.out⟩
 rw [if_neg (fun h=>h hkk)] at HD
 subst hkk
 by_cases h13:f.blocks.length < 1∨(¬ f.blocks.length < 1∧16 < f.blocks.length)
 ·rw [if_pos (by omega)] at HD
  clear HI HPP HBL HOK HAG
  obtain ⟨sg,bl⟩:=f
  simp only at *
  generalize t.length=n1 at *
  generalize bl.length=n3 at *
  subst hk
  have h14:(n3:Int) < 1∨(¬ (n3:Int) < 1∧(16:Int) < n3):=by omega
  rcases h14 with h14 | ⟨h14,h15⟩
  ·go_enter Tryz.func75,Tryz.ntmps75
   go_wp2<;>first | (exfalso;omega) | (go_ret;exact ⟨by rw [HD.out];rfl,by rw [← HW.out];exact HBW.out⟩)
  ·go_enter Tryz.func75,Tryz.ntmps75
   go_wp2<;>first | (exfalso;omega) | (go_ret;exact ⟨by rw [HD.out];rfl,by rw [← HW.out];exact HBW.out⟩)
 have g1:¬ (f.blocks.length:Int) < 1:=by omega
 have g16:¬ (16:Int) < f.blocks.length:=by omega
 by_cases hm:128 < nm
 ·rw [if_pos (by omega)] at HD
  have gm:(128:Int) < nm:=by omega
  have HIC:=hid (HI.out W h0)
  clear HI HPP HBL HOK HAG h13
  obtain ⟨sg,bl⟩:=f
  simp only at *
  generalize t.length=n1 at *
  generalize bl.length=n3 at *
  subst hk
  go_enter Tryz.func75,Tryz.ntmps75
  go_wp2_with fail
  all_goals (try (exfalso;omega))
  rw [← HW.out]
  refine HIC.out.mono ?_
  rintro e w1 ⟨rfl,hb1⟩
  have h1:=h0.go hb1
  clear hb1 HIC
  go_wp2<;>first | (exfalso;omega) | (go_ret;exact ⟨by rw [HD.out];rfl,h1.out HBW.out⟩)
 rw [if_neg (by omega)] at HD
 have gm:¬ (128:Int) < nm:=by omega
 have HIC:=hid (HI.out W h0)
 obtain ⟨sg,bl⟩:=f
 simp only at *
 generalize t.length=n1 at *
 generalize hn3:bl.length=n3 at *
 have HN3:=hid hn3
 subst hk
 clear hn3 h13 hm
 go_enter Tryz.func75,Tryz.ntmps75
 go_wp2_with fail
 all_goals (try (exfalso;omega))
 rw [← HW.out]
 refine HIC.out.mono ?_
 rintro e w1 ⟨rfl,hb1⟩
 have h1:=h0.go hb1
 clear hb1 HIC
 have h1d:=h1.drew
 have hwr:=HWR.out
 go_upto_region 3 with fail
 all_goals (try (exfalso;omega))
 have HPC:=hid (HPP.out _ h1d)
 clear h1 hlt
 go_region_held3 (fun w'=>Aft W w') (first | exact (h1d.go hb3).go hb4 | exact h1d.go hb3 | exact h1d)
  (first | (go_at_call 118;refine HPC.out.mono ?_;rintro e w3 ⟨rfl,hb3⟩) | (go_at_call 119;refine (HI.out w3 (h1d.go hb3)).mono ?_;rintro e w4 ⟨rfl,hb4⟩))
 have h4:=(h1d.go hb3).go hb4
 have HH4:=hid h4
 clear HPC HPP HI hb3 hb4 hwr HWR h1d c0
 have HL0:Hid (∀ x:Ix,0≤x.op→mayI (limL n1 ((np+nm:Nat):Int) nf n3) x=mayIR n1 ((np+nm:Nat):Int) nf n3 x):=fun x hx=>ShN.mayI_eq hx
 have HL1:Hid (∀ x:Ex,0≤x.kind→mayE (limL n1 ((np+nm:Nat):Int) nf n3) x=mayER ((np+nm:Nat):Int) n3 x):=fun x hx=>ShN.mayE_eq hx
 have hcast:((np+nm:Nat):Int)=(np:Int)+(nm:Int):=by omega
 rw [hcast] at HL0 HL1 HD
 clear hcast
 obtain ⟨nr,hnr⟩:∃ nr:Int,nr=(np:Int)+(nm:Int):=⟨_,rfl⟩
 rw [← hnr] at HL0 HL1 HD ⊢
 clear hnr
 clear h4
 go_wp2_with fail
 go_loopg [6,7] n3 (fun gk i _ wr=>∃ k:Nat,k+gk=n3∧i=.int .i64 k∧(bl.take k).all (mayBl (limL n1 nr nf n3))=true∧Aft W wr)
 case atStart=>exact ⟨0,by omega,rfl,rfl,HH4.out⟩
 case round =>
  obtain ⟨i,hi,rfl,hall,hr⟩:=hrel
  have HK:=hid hi
  have HALL:=hid hall
  clear hall
  by_cases hlt:i < n3
  ·have hlb:i < bl.length:=by rw [HN3.out];exact hlt
   obtain ⟨b,bo,rfl,hbs,vi,b0,b1,b2,b3,b4,hins⟩:=HBL.out.at i hlb
   have j0:=later b0;have j1:=later b1;have j2:=later b2;have j3:=later b3;have j4:=later b4
   have HTK:=hid (all_take (q:=mayBl (limL n1 nr nf n3)) hlb HALL.out)
   have HNO:=hid (all_not (q:=mayBl (limL n1 nr nf n3)) hlb)
   have hmem:=List.getElem_mem hlb
   have HO:=hid (HOK.out _ hmem)
   have HA:=hid (HAG.out _ hmem)
   have HBF:Hid (bl[i].ins.all (mayI (limL n1 nr nf n3))=false→mayBl (limL n1 nr nf n3) bl[i]=false):=fun h=>by unfold mayBl;rw [h,Bool.and_false]
   have HBE:Hid (mayE (limL n1 nr nf n3) bl[i].en=false→mayBl (limL n1 nr nf n3) bl[i]=false):=fun h=>by unfold mayBl;rw [h];rfl
   have HBT:Hid (mayE (limL n1 nr nf n3) bl[i].en=true→bl[i].ins.all (mayI (limL n1 nr nf n3))=true→mayBl (limL n1 nr nf n3) bl[i]=true):=fun h1 h2=>by unfold mayBl;rw [h1,h2];rfl
   clear hi b0 b1 b2 b3 b4 hbs hmem
   generalize bl[i]=y at *
   clear hlb
   obtain ⟨ia,ic,rfl,hil⟩:=hins.slice
   have HIN:=hid hins
   clear hins
   obtain ⟨wo,hwo⟩:∃ wo:World,wo=wr:=⟨wr,rfl⟩
   subst hwo
   obtain ⟨go,hgo⟩:∃ go:Nat,go=gk:=⟨gk,rfl⟩
   subst hgo
   have HRO:=hid hr
   go_wp2_with fail
   clear hr
   go_loopg [7] y.ins.length (fun gk q wr=>∃ k:Nat,k+gk=y.ins.length∧q=.int .i64 k∧(y.ins.take k).all (mayI (limL n1 nr nf n3))=true∧Aft W wr)
   case atStart=>exact ⟨0,by omega,rfl,rfl,HRO.out⟩
   case round =>
    obtain ⟨q,hq,rfl,hallq,hr⟩:=hrel
    have HQ:=hid hq
    have HALQ:=hid hallq
    clear hallq
    by_cases hql:q < y.ins.length
    ·obtain ⟨ib,io,rfl,_,va,vf,i0,i1,i2,i3,i4,i5,i6,hva,hvf⟩:=HIN.out.at q hql
     have y0:=later i0;have y1:=later i1;have y2:=later i2;have y3:=later i3;have y4:=later i4;have y5:=later i5;have y6:=later i6
     have HTQ:=hid (all_take (q:=mayI (limL n1 nr nf n3)) hql HALQ.out)
     have HNQ:=hid (all_not (q:=mayI (limL n1 nr nf n3)) hql)
     have hmem:=List.getElem_mem hql
     have hop:=HO.out.2 _ hmem
     have hag:=HA.out _ hmem
     have heq:=HL0.out _ hop.1
     clear hq i0 i1 i2 i3 i4 i5 i6 hmem
     generalize y.ins[q]=x at *
     have hrd:=hr.drew
     have HC:=hid (ShRB.mayIns_calls x (some ⟨tb,off,none⟩) n1 tc fa nf fcap nr n3 va vf wr.drew hop (hva.below hrd.below) (hvf.below hrd.below) hag)
     rw [← heq] at HC
     obtain ⟨aa,ac,rfl,_⟩:=ints_slice hva
     obtain ⟨fa2,fc2,rfl,_⟩:=ints_slice hvf
     clear hva hvf hop hag heq
     generalize mayI (limL n1 nr nf n3) x=ok at *
     have hlq:(q:Int) < y.ins.length:=by omega
     go_upto_region 10 with fail
     go_region_held3 (fun w'=>Aft W w') (first | exact hrd.go hb5 | exact hrd) ((go_at_call 123;refine HC.out.mono ?_;rintro e w5 ⟨rfl,hb5⟩))
     have h5:=hrd.go hb5
     clear hb5 hrd HC
     cases ok with
     | false =>
      have HANS:Hid (ans=false):=by
       show _=_
       rw [HD.out]
       exact Bool.eq_false_iff.2 (HNO.out (HBF.out (Bool.eq_false_iff.2 (HNQ.out rfl))))
      clear HNO HBF HNQ
      go_wp2
      go_ret
      exact ⟨by rw [HANS.out];rfl,h5.out HBW.out⟩
     | true =>
      have HT2:=hid (HTQ.out rfl)
      clear HTQ HNQ
      go_wp2
      go_roundg (gk - 1)
      case measure=>have:=HQ.out;omega
      case rel=>exact ⟨q+1,by have:=HQ.out;omega,by go_num,HT2.out,h5⟩
    ·obtain rfl:q=y.ins.length:=by omega
     have HALL2:Hid (y.ins.all (mayI (limL n1 nr nf n3))=true):=by
      have:=HALQ.out
      rwa [List.take_length] at this
     have HE:=hid (ShRC.mayEndR_calls y.en nr n3 wr.drew)
     have heq:=HL1.out _ HO.out.1.1
     rw [← heq] at HE
     have hrd:=hr.drew
     clear hq heq
     generalize mayE (limL n1 nr nf n3) y.en=ok at *
     go_upto_region 12 with fail
     go_region_held3 (fun w'=>Aft W w') (first | exact hrd.go hb5 | exact hrd) ((go_at_call 124;refine HE.out.mono ?_;rintro e w5 ⟨rfl,hb5⟩))
     have h5:=hrd.go hb5
     clear hb5 hrd HE
     cases ok with
     | false =>
      have HANS:Hid (ans=false):=by
       show _=_
       rw [HD.out]
       exact Bool.eq_false_iff.2 (HNO.out (HBE.out rfl))
      clear HNO HBE
      go_wp2
      go_ret
      exact ⟨by rw [HANS.out];rfl,h5.out HBW.out⟩
     | true =>
      have HT2:=hid (HTK.out (HBT.out rfl HALL2.out))
      clear HTK HBT
      go_wp2
      go_roundg (go - 1)
      case measure=>have:=HK.out;omega
      case rel=>exact ⟨i+1,by have:=HK.out;omega,by go_num,HT2.out,h5⟩
  ·obtain rfl:i=n3:=by omega
   have HANS:Hid (ans=true):=by
    show _=_
    have:=HALL.out
    rw [← HN3.out,List.take_length,HN3.out] at this
    rw [HD.out,this]
   clear hi
   go_wp2
   go_ret
   exact ⟨by rw [HANS.out];rfl,hr.out HBW.out⟩
end Go.Proofs.YtpejpnffcepdlaaGreatDoor.ShRF

namespace Go.Proofs.YtpejpnffcepdlaaGreatDoor.ShRG
open Go.RowKit Go.Lib RwO SetP IntO TyM TyP TyB TyC TyRA ShM ShP ShA ShB ShC ShE ShRA ShH ShI Aft

theorem checkP_calls (p:Px) (v:Value) (w:World) (hp:PrAt w v p) (hs:Small p) (hok:POk p) :
  Calls Tryz.prog 35 #[v] w (NumR (chkP p) w):=by
 obtain ⟨vt,vf,rfl,ht,hf⟩:=hp
 obtain ⟨W,hW⟩:∃ W,W=w.alloc (.cells #[vt,vf] 27):=⟨_,rfl⟩
 have hbW:Below w.heap.size w W:=by rw [hW];exact alloc_below _ _
 have k1:W.heap[w.heap.size]?=some (.cells #[vt,vf] 27 (0,0)):=by rw [hW];exact alloc_new _ _
 have HCK:=hid (TyRB.checkR_calls p.types vt W (ht.below hbW))
 have HF:=hid (hf.below fnStays hbW)
 have HT:=hid (ht.below hbW)
 have HS:=hid hs
 have HOK:=hid hok
 obtain ⟨ta,tc,rfl⟩:=ht.slice
 obtain ⟨fa,fc,rfl,hfl⟩:=hf.slice
 have l0:=later_cells k1 0 _ rfl;have l1:=later_cells k1 1 _ rfl
 have HD:Hid (chkP p=if chkT p.types≠0 then chkT p.types else if p.funcs.length < 1∨8 < p.funcs.length then 60 else if p.funcs.all (mayF p.types p.funcs.length)=true then 0 else 60):=rfl
 generalize chkP p=ans at *
 have HBW:=hid hbW
 have HW:=hid hW
 have h0:=Aft.refl W
 clear ht hf hbW hW hs hok k1
 by_cases hc:chkT p.types=0
 rotate_left
 ·rw [if_pos hc] at HD
  have e0:(chkT p.types != 0)=true:=by simpa using hc
  generalize chkT p.types=ct at *
  clear HT HF HS HOK
  generalize p.types.length=n1 at *
  generalize p.funcs.length=n2 at *
  go_enter Tryz.func35,Tryz.ntmps35
  go_wp2_with fail
  rw [← HW.out]
  refine HCK.out.mono ?_
  rintro e w1 ⟨rfl,hb1⟩
  have h1:=h0.go hb1
  clear HCK hb1 hc
  go_wp2
  go_ret
  exact ⟨by rw [HD.out];rfl,h1.out HBW.out⟩
 rw [if_neg (fun h=>h hc)] at HD
 rw [hc] at HCK
 clear hc
 have HMF:=hid (fun (i:Nat) (h:i < p.funcs.length) (vb:Value) wx (hx:Aft W wx) (hb:BlksAt wx vb p.funcs[i].blocks) =>
  ShRF.mayFuncR_calls p.types p.funcs.length p.funcs[i] (.slice ta p.types.length tc) vb fa fc wx (HT.out.below hx.below) hb (HS.out.many _ (List.getElem_mem h)) HS.out.parts (HOK.out _ (List.getElem_mem h)) (fun b hb x hx=>by have:=(HS.out.args _ (List.getElem_mem h) b hb x hx).1;omega))
 clear HT HS HOK
 go_enter Tryz.func35,Tryz.ntmps35
 go_wp2_with fail
 rw [← HW.out]
 refine HCK.out.mono ?_
 rintro e w1 ⟨rfl,hb1⟩
 have h1:=h0.go hb1
 clear HCK hb1
 have HH1:=hid h1
 go_wp2_with fail
 go_loopg [4] p.funcs.length (fun gk i wr=>∃ k:Nat,k+gk=p.funcs.length∧i=.int .i64 k∧(p.funcs.take k).all (mayF p.types p.funcs.length)=true∧Aft W wr)
 case atStart=>exact ⟨0,by omega,rfl,rfl,HH1.out⟩
 case round =>
  obtain ⟨i,hi,rfl,hall,hr⟩:=hrel
  clear h1
  have HK:=hid hi
  have HALL:=hid hall
  clear hall
  by_cases hlt:i < p.funcs.length
  ·have hrd:=hr.drew
   obtain ⟨b,bo,rfl,hbs,vb,b0,b1,hbl⟩:=(HF.out.below fnStays hrd.below).at i hlt
   have j0:=later b0;have j1:=later b1
   have HTK:=hid (all_take (q:=mayF p.types p.funcs.length) hlt HALL.out)
   have HNO:=hid (all_not (q:=mayF p.types p.funcs.length) hlt)
   have HC:=hid (HMF.out i hlt vb _ hrd hbl)
   obtain ⟨ba,bc,rfl,_⟩:=hbl.slice
   have hli:(i:Int) < p.funcs.length:=by omega
   clear hi b0 b1 hbs hbl HMF HF
   generalize p.funcs[i]=x at *
   clear hlt
   generalize mayF p.types p.funcs.length x=ok at *
   generalize p.types.length=n1 at *
   have HRD:=hid hrd
   have hrr:=Aft.refl wr.drew
   go_upto_region 7 with fail
   go_region_held3 (fun w'=>Aft W w'∧Aft wr.drew w') (first | exact ⟨HRD.out.go hb5,hrr.go hb5⟩ | exact ⟨HRD.out,hrr⟩) ((go_at_call 75;refine HC.out.mono ?_;rintro e w5 ⟨rfl,hb5⟩))
   have h5:=HRD.out.go hb5
   clear hb5 HC
   cases ok with
   | false =>
    have HANS:Hid (ans=60):=by
     show _=_
     have:=HNO.out rfl
     rw [HD.out,if_neg this]
     split<;>rfl
    clear HNO HTK
    go_wp2
    go_ret
    exact ⟨by rw [HANS.out];rfl,h5.out HBW.out⟩
   | true =>
    have HT2:=hid (HTK.out rfl)
    clear HTK HNO
    go_wp2
    go_roundg (gk - 1)
    case measure=>have:=HK.out;omega
    case rel=>exact ⟨i+1,by have:=HK.out;omega,by go_num,HT2.out,h5⟩
  ·obtain rfl:i=p.funcs.length:=by omega
   have hall:p.funcs.all (mayF p.types p.funcs.length)=true:=by
    have:=HALL.out
    rwa [List.take_length] at this
   rw [if_pos hall] at HD
   clear hi HALL hall HMF HF hlt
   have HR:=hid (hr.out HBW.out)
   generalize p.types.length=n1 at *
   generalize p.funcs.length=n2 at *
   by_cases hn1:n2 < 1
   ·rw [if_pos (Or.inl hn1)] at HD
    have hn3:(n2:Int) < 1:=by omega
    clear hn1
    go_wp2<;>first | (exfalso;omega) | (go_ret;exact ⟨by rw [HD.out];rfl,HR.out⟩)
   ·have hn3:¬ (n2:Int) < 1:=by omega
    by_cases hn8:8 < n2
    ·rw [if_pos (Or.inr hn8)] at HD
     have hn4:(8:Int) < n2:=by omega
     clear hn1 hn8
     go_wp2<;>first | (exfalso;omega) | (go_ret;exact ⟨by rw [HD.out];rfl,HR.out⟩)
    ·rw [if_neg (by omega)] at HD
     have hn4:¬ (8:Int) < n2:=by omega
     clear hn1 hn8
     go_wp2<;>first | (exfalso;omega) | (go_ret;exact ⟨by rw [HD.out];rfl,HR.out⟩)

end Go.Proofs.YtpejpnffcepdlaaGreatDoor.ShRG
namespace Go.Proofs.YtpejpnffcepdlaaGreatDoor.FvC
open Go.RowKit Go.Lib RwO SetP IntO TyM TyP TyB TyC TyRA ShM ShP ShA ShB ShC ShE ShRA ShH ShI ShJ ShRG Aft FwP FwQ FwR FvA FvB

theorem ahead_calls (l:List Bx) (b:Nat) (v:Value) (w:World) (hl:BlksAt w v l) (hlow:Low l) (hlen:l.length≤1000) :
  Calls Tryz.prog 176 #[v,.int .i64 b] w (LstR (ints (aheadL l b)) w):=by
 have HL:=hid hl
 have HM:=hid (fun k (hk:k < l.length)=>succ_mem hlow (j:=b) hk)
 obtain ⟨ao,cap,rfl,hll⟩:=hl.slice
 clear hl hlow
 rw [← aheadN_all]
 go_enter Tryz.func176,Tryz.ntmps176
 go_wp2
 go_loopg [5,6] l.length (fun gk u i wr=>∃ k:Nat,k+gk=l.length∧i=.int .i64 k∧wr.ownsRow w.heap.size 3 1 u (aheadN l b k).length (intVals (ints (aheadN l b k)))∧Below w.heap.size w wr)
 case atStart=>exact ⟨0,by omega,rfl,World.ownsRow_nil _ _ _ _,Below.refl _ _⟩
 case round =>
  obtain ⟨k,hk,rfl,hown,hbe⟩:=hrel
  have HK:=hid hk
  have HLN:=hid (aheadN_len l b k)
  have HOWN:=hid hown
  have HBE:=hid hbe
  obtain ⟨ua,un,rfl⟩:=own_slice hown
  by_cases hlt:k < l.length
  ·have HLT:=hid hlt
   have HML:=HM.out k hlt
   obtain ⟨g,off,rfl,heL⟩:=end_later (HL.out.below blkStays hbe) k hlt
   have HT:=hid (fun wx=>to_calls (endAt l k) wx)
   have HTL:=hid (toE_len (endAt l k))
   have HIN:=hid (fun (wx:World) (u:Value) (h:IntsAt wx u (toE (endAt l k)))=>in_calls u (toE (endAt l k)) b wx h)
   have hdec:decide ((b:Int)∈toE (endAt l k))=decide (b∈succ l k):=decide_eq_decide.2 HML.symm
   rw [hdec] at HIN
   have HYES:=hid (aheadN_yes (l:=l) (b:=b) (k:=k))
   have HNO:=hid (aheadN_no (l:=l) (b:=b) (k:=k))
   clear hk hown hbe HML hdec
   generalize toE (endAt l k)=tl at *
   generalize endAt l k=x at *
   obtain ⟨ek,ea,et,ee⟩:=x
   simp only at *
   have q1:=fun w' h=>(heL w' h).1
   have q2:=fun w' h=>(heL w' h).2.1
   have q3:=fun w' h=>(heL w' h).2.2.1
   have q4:=fun w' h=>(heL w' h).2.2.2
   have h0:=Aft.refl wr
   clear heL
   go_wp2_with fail
   refine (HT.out wr).mono ?_
   rintro e w1 ⟨u,m,rfl,hu,hb1⟩
   have h1:=h0.go hb1
   have HI1:=hid (HIN.out w1 u (intsAt_of_owns hu (by have:=HTL.out;omega)))
   clear HT HIN hu hb1
   go_wp2_with fail
   refine HI1.out.mono ?_
   rintro e w2 ⟨rfl,hb2⟩
   have h2:=h1.go hb2
   have HOW2:=hid (ownsRow_below HOWN.out h2.below)
   have HBE2:=hid (h2.out HBE.out)
   clear HI1 hb2 HOWN HBE
   by_cases hin:b∈succ l k
   ·have hd:decide (b∈succ l k)=true:=decide_eq_true hin
    have HA:=hid (HYES.out hin)
    clear HYES HNO hin
    have HO3:=hid (HOW2.out.alloc (.cells #[.int .i64 k] 3))
    have HI3:=hid (ints_one (w:=w2.alloc (.cells #[.int .i64 k] 3)) (b:=w2.heap.size) (n:=k) (cell_new _ _ _ _ rfl) (size_new _ _ _ rfl))
    have hsz:w.heap.size≤(w2.alloc (.cells #[.int .i64 k] 3)).heap.size:=by have:=HBE2.out.size;simp only [World.size_alloc];omega
    have hxs:(aheadN l b k).length≤100000:=by have:=HLN.out;have:=HLT.out;omega
    rw [hd]
    go_wp2_with (at_builtin;refine wpList_append_ints rfl (.tmp 21) (.tmp 23) rfl w.heap.size (.slice ua (aheadN l b k).length un) rfl (aheadN l b k).length (intVals (ints (aheadN l b k))) HO3.out hxs (.slice (some ⟨w2.heap.size,0,none⟩) 1 1) [(k:Int)] rfl HI3.out (by simp) hsz ?_)
    intro v' w' hown' hgr
    have HB4:=hid (own_grown (HBE2.out.alloc (by have:=HBE2.out.size;omega) _) HO3.out hgr hsz)
    have HNX:Hid (w'.ownsRow w.heap.size 3 1 v' (aheadN l b (k+1)).length (intVals (ints (aheadN l b (k+1))))):=by
     show World.ownsRow _ _ _ _ _ _ _
     rw [HA.out,ints_append,intVals_append,List.length_append]
     exact hown'
    obtain ⟨va,vn,rfl⟩:=own_slice hown'
    clear hown' hgr HI3 HO3 HOW2 HBE2 hsz hd
    go_wp2
    go_roundg (gk - 1)
    case measure=>have:=HK.out;have:=HLT.out;omega
    case rel=>exact ⟨k+1,by have:=HK.out;have:=HLT.out;omega,by go_num,by have:=HNX.out;rw [HA.out,List.length_append] at this ⊢;exact this,HB4.out⟩
   ·have hd:decide (b∈succ l k)=false:=decide_eq_false hin
    have HA:=hid (HNO.out hin)
    clear HYES HNO hin
    rw [hd]
    go_wp2
    go_roundg (gk - 1)
    case measure=>have:=HK.out;have:=HLT.out;omega
    case rel=>exact ⟨k+1,by have:=HK.out;have:=HLT.out;omega,by go_num,by rw [HA.out];exact HOW2.out,HBE2.out⟩
  ·obtain rfl:k=l.length:=by omega
   have HI:=hid (intsAt_of_owns (l:=ints (aheadN l b l.length)) HOWN.out (by rw [ints_length];have:=HLN.out;omega))
   clear hk hown
   generalize (aheadN l b l.length).length=m at *
   generalize l.length=n at *
   go_wp2
   go_ret
   exact ⟨_,rfl,HI.out,HBE.out⟩
end Go.Proofs.YtpejpnffcepdlaaGreatDoor.FvC
namespace Go.Proofs.YtpejpnffcepdlaaGreatDoor.ShRH
open Go.RowKit Go.Lib RwO SetP IntO TyM TyP TyB TyC TyRA ShM ShP ShA ShB ShC ShE ShRA ShH ShI ShJ Aft

theorem number_calls (p:Px) (f:Int) (k:Nat) (x:Fx) (j i:Nat) (v:Value) (w:World) (hp:PrAt w v p) (h1:Has1 p f k x) (hj:j≤x.blocks.length) (hle:parOf p.types x.sig+manyB x.blocks≤1000000) (hi:i≤1000000) :
  Calls Tryz.prog 120 #[v,.int .i64 f,.int .i64 j,.int .i64 i] w (NumR ((parOf p.types x.sig+(manyB (x.blocks.take j)+i):Nat):Int) w):=by
 obtain ⟨vt,vf,rfl,ht,hf⟩:=hp
 obtain ⟨W,hW⟩:∃ W,W=w.alloc (.cells #[vt,vf] 27):=⟨_,rfl⟩
 have hbW:Below w.heap.size w W:=by rw [hW];exact alloc_below _ _
 have k1:W.heap[w.heap.size]?=some (.cells #[vt,vf] 27 (0,0)):=by rw [hW];exact alloc_new _ _
 obtain ⟨fb,foff,fcap,vb,rfl,hfb,c0,c1,hbl⟩:=fn_at hf h1
 have htW:=ht.below hbW
 have hblW:=hbl.below blkStays hbW
 have hml:=manyB_le x.blocks j
 have HP:=hid (fun wx (hx:Aft W wx)=>paramsR_calls p.types x vt (.slice (some ⟨fb,foff,none⟩) p.funcs.length fcap) vb wx (htW.below hx.below) ⟨_,_,_,rfl⟩ h1.sig0 h1.sig1 (hblW.below blkStays hx.below).slice)
 have d0:=later ((hbW.cell (p:=⟨fb,foff+k * 2,none⟩) hfb).trans c0)
 have d1:=later ((hbW.cell (p:=⟨fb,foff+k * 2+1,none⟩) hfb).trans c1)
 obtain ⟨ta,tc,rfl⟩:=ht.slice
 obtain ⟨ba,bc,rfl,_⟩:=hbl.slice
 obtain ⟨bb,boff,hba,-⟩:=hbl.at 0 (by have:=h1.blocks1;omega)
 subst hba
 have HI:=hid (fun wx (hx:Aft W wx)=>many_calls (.slice (some ⟨bb,boff,none⟩) j bc) (x.blocks.take j) wx ((hblW.below blkStays hx.below).take j hj) (by omega))
 have hcap:=hbl.cap
 have hjc:(j:Int)≤bc:=by omega
 have hj0:(0:Int)≤j:=by omega
 have l0:=later_cells k1 0 _ rfl;have l1:=later_cells k1 1 _ rfl
 have hkl:(k:Int) < p.funcs.length:=by have:=h1.lt;omega
 have hk0:(0:Int)≤k:=by omega
 have hke:=h1.eq
 have HBW:=hid hbW
 have HW:=hid hW
 have h0:=(Aft.refl W).drew
 have hw1:IntKind.i64.wrap (((parOf p.types x.sig:Nat):Int)+(manyB (x.blocks.take j):Nat))=((parOf p.types x.sig+manyB (x.blocks.take j):Nat):Int):=sum_wrap (by omega)
 have hw2:IntKind.i64.wrap (((parOf p.types x.sig:Nat):Int)+(manyB (x.blocks.take j):Nat)+(i:Int))=((parOf p.types x.sig+(manyB (x.blocks.take j)+i):Nat):Int):=by rw [IntWalk.i64_in _ (by omega)];omega
 have HW1:=hid hw1
 have HW2:=hid hw2
 clear ht hf htW hblW hbW hW k1 hbl h1 c0 c1 hle hml hw1 hw2 hj
 subst hke
 generalize parOf p.types x.sig=par at *
 generalize manyB (x.blocks.take j)=nm at *
 obtain ⟨sg,bl⟩:=x
 simp only at *
 generalize p.types.length=n1 at *
 generalize p.funcs.length=n2 at *
 generalize bl.length=n4 at *
 have hwr:=HW1.out
 have hwr2:=HW2.out
 have HPC:=hid (HP.out _ h0)
 clear HP
 go_enter Tryz.func120,Tryz.ntmps120
 go_wp2_with fail
 rw [← HW.out]
 go_region_held3 (fun w'=>Aft W w') (first | exact (h0.go hb3).go hb4 | exact h0.go hb3 | exact h0)
  (first | (go_at_call 118;refine HPC.out.mono ?_;rintro e w3 ⟨rfl,hb3⟩) | (go_at_call 119;refine (HI.out w3 (h0.go hb3)).mono ?_;rintro e w4 ⟨rfl,hb4⟩))
 all_goals
  have h4:=(h0.go hb3).go hb4
  go_wp2
  go_ret
  exact ⟨rfl,h4.out HBW.out⟩

end Go.Proofs.YtpejpnffcepdlaaGreatDoor.ShRH
namespace Go.Proofs.YtpejpnffcepdlaaGreatDoor.ShRG
open Go.RowKit Go.Lib RwO SetP IntO TyM TyP TyB TyC TyRA ShM ShP ShA ShB ShC ShE ShRA ShH ShI Aft

theorem asked_calls (p:Px) (f:Int) (v:Value) (w:World) (hp:PrAt w v p) (hs:Small p) (hok:POk p) :
  Calls Tryz.prog 70 #[v,.int .i64 f] w (NumR (findP p f) w):=by
 have hp0:=hp
 obtain ⟨vt,vf,rfl,ht,hf⟩:=hp
 obtain ⟨W,hW⟩:∃ W,W=w.alloc (.cells #[vt,vf] 27):=⟨_,rfl⟩
 have hbW:Below w.heap.size w W:=by rw [hW];exact alloc_below _ _
 have k1:W.heap[w.heap.size]?=some (.cells #[vt,vf] 27 (0,0)):=by rw [hW];exact alloc_new _ _
 have HCK:=hid (checkP_calls p _ W (hp0.below hbW) hs hok)
 have HD:Hid (findP p f=if chkP p≠0 then chkP p else if 0≤f∧f < p.funcs.length then 0 else 2):=rfl
 obtain ⟨ta,tc,rfl⟩:=ht.slice
 obtain ⟨fa,fc,rfl,hfl⟩:=hf.slice
 have l0:=later_cells k1 0 _ rfl;have l1:=later_cells k1 1 _ rfl
 generalize findP p f=ans at *
 generalize chkP p=ck at *
 have HBW:=hid hbW
 have HW:=hid hW
 have h0:=Aft.refl W
 clear ht hf hbW hW hs hok k1 hp0
 generalize p.types.length=n1 at *
 generalize p.funcs.length=n2 at *
 by_cases hc:ck=0
 rotate_left
 ·rw [if_pos hc] at HD
  have e0:(ck == 0)=false:=by simpa using hc
  go_enter Tryz.func70,Tryz.ntmps70
  go_wp2_with fail
  rw [← HW.out]
  refine HCK.out.mono ?_
  rintro e w1 ⟨rfl,hb1⟩
  have h1:=h0.go hb1
  clear HCK hb1 hc
  go_wp2
  go_ret
  exact ⟨by rw [HD.out];rfl,h1.out HBW.out⟩
 rw [if_neg (fun h=>h hc)] at HD
 subst hc
 go_enter Tryz.func70,Tryz.ntmps70
 go_wp2_with fail
 rw [← HW.out]
 refine HCK.out.mono ?_
 rintro e w1 ⟨rfl,hb1⟩
 have h1:=h0.go hb1
 have HE:=hid (h1.out HBW.out)
 clear HCK hb1
 by_cases f0:f < 0
 ·rw [if_neg (by omega)] at HD
  go_wp2<;>first | (exfalso;omega) | (go_ret;exact ⟨by rw [HD.out];rfl,HE.out⟩)
 ·by_cases f1:(n2:Int)≤f
  ·rw [if_neg (by omega)] at HD
   go_wp2<;>first | (exfalso;omega) | (go_ret;exact ⟨by rw [HD.out];rfl,HE.out⟩)
  ·rw [if_pos (by omega)] at HD
   go_wp2<;>first | (exfalso;omega) | (go_ret;exact ⟨by rw [HD.out];rfl,HE.out⟩)
end Go.Proofs.YtpejpnffcepdlaaGreatDoor.ShRG

namespace Go.Proofs.YtpejpnffcepdlaaGreatDoor.ShRH
open Go.RowKit Go.Lib RwO SetP IntO TyM TyP TyB TyC TyRA ShM ShP ShA ShB ShC ShE ShRA ShH ShI ShJ Aft

theorem count_calls (p:Px) (f:Int) (k:Nat) (x:Fx) (v:Value) (w:World) (hp:PrAt w v p) (h1:Has1 p f k x) (hle:parOf p.types x.sig+manyB x.blocks≤1000000) :
  Calls Tryz.prog 71 #[v,.int .i64 f] w (NumR ((parOf p.types x.sig+manyB x.blocks:Nat):Int) w):=by
 obtain ⟨vt,vf,rfl,ht,hf⟩:=hp
 obtain ⟨W,hW⟩:∃ W,W=w.alloc (.cells #[vt,vf] 27):=⟨_,rfl⟩
 have hbW:Below w.heap.size w W:=by rw [hW];exact alloc_below _ _
 have k1:W.heap[w.heap.size]?=some (.cells #[vt,vf] 27 (0,0)):=by rw [hW];exact alloc_new _ _
 obtain ⟨fb,foff,fcap,vb,rfl,hfb,c0,c1,hbl⟩:=fn_at hf h1
 have htW:=ht.below hbW
 have hblW:=hbl.below blkStays hbW
 have HP:=hid (fun wx (hx:Aft W wx)=>paramsR_calls p.types x vt (.slice (some ⟨fb,foff,none⟩) p.funcs.length fcap) vb wx (htW.below hx.below) ⟨_,_,_,rfl⟩ h1.sig0 h1.sig1 (hblW.below blkStays hx.below).slice)
 have HI:=hid (fun wx (hx:Aft W wx)=>many_calls vb x.blocks wx (hblW.below blkStays hx.below) (by omega))
 have HWR:=hid (sum_wrap hle)
 have d0:=later ((hbW.cell (p:=⟨fb,foff+k * 2,none⟩) hfb).trans c0)
 have d1:=later ((hbW.cell (p:=⟨fb,foff+k * 2+1,none⟩) hfb).trans c1)
 obtain ⟨ta,tc,rfl⟩:=ht.slice
 obtain ⟨ba,bc,rfl,_⟩:=hbl.slice
 have l0:=later_cells k1 0 _ rfl;have l1:=later_cells k1 1 _ rfl
 have hkl:(k:Int) < p.funcs.length:=by have:=h1.lt;omega
 have hk0:(0:Int)≤k:=by omega
 have hke:=h1.eq
 have HBW:=hid hbW
 have HW:=hid hW
 have h0:=(Aft.refl W).drew
 clear ht hf htW hblW hbW hW k1 hbl h1 c0 c1 hle
 subst hke
 generalize parOf p.types x.sig=par at *
 generalize manyB x.blocks=nm at *
 obtain ⟨sg,bl⟩:=x
 simp only at *
 generalize p.types.length=n1 at *
 generalize p.funcs.length=n2 at *
 generalize bl.length=n4 at *
 have hwr:=HWR.out
 have HPC:=hid (HP.out _ h0)
 clear HP
 go_enter Tryz.func71,Tryz.ntmps71
 go_wp2_with fail
 rw [← HW.out]
 go_region_held3 (fun w'=>Aft W w') (first | exact (h0.go hb3).go hb4 | exact h0.go hb3 | exact h0)
  (first | (go_at_call 118;refine HPC.out.mono ?_;rintro e w3 ⟨rfl,hb3⟩) | (go_at_call 119;refine (HI.out w3 (h0.go hb3)).mono ?_;rintro e w4 ⟨rfl,hb4⟩))
 all_goals
  have h4:=(h0.go hb3).go hb4
  go_wp2
  go_ret
  exact ⟨rfl,h4.out HBW.out⟩
end Go.Proofs.YtpejpnffcepdlaaGreatDoor.ShRH
namespace Go.Proofs.YtpejpnffcepdlaaGreatDoor.ShRH
open Go.RowKit Go.Lib RwO SetP IntO TyM TyP TyB TyC TyRA ShM ShP ShA ShB ShC ShE ShRA ShH ShI ShJ ShK Aft

def Ahead (par m:Nat) (r:Int):Prop:=r < par∨((par+m:Nat):Int)≤r
def whereB (par:Nat) (l:List Bx) (r:Int):Int:=if r < par then -1 else (((locate l (r - par).toNat).1:Nat):Int)
def whereI (par:Nat) (l:List Bx) (r:Int):Int:=if r < par then r else (((locate l (r - par).toNat).2:Nat):Int)
theorem where_at {par:Nat} {l:List Bx} {j i:Nat} (hj:j < l.length) (hi:i < l[j].ins.length):whereB par l ((par+(manyB (l.take j)+i):Nat):Int)=j∧whereI par l ((par+(manyB (l.take j)+i):Nat):Int)=i:=by
 have h:=locate_of l (manyB (l.take j)+i) j i hj rfl hi
 have ht:(((par+(manyB (l.take j)+i):Nat):Int) - (par:Int)).toNat=manyB (l.take j)+i:=by omega
 unfold whereB whereI
 rw [if_neg (by omega),if_neg (by omega),ht,h]
 exact ⟨rfl,rfl⟩

theorem where_calls (p:Px) (k:Nat) (x:Fx) (r:Int) (v:Value) (w:World) (hp:PrAt w v p) (h1:Has1 p k k x) (hle:parOf p.types x.sig+manyB x.blocks≤1000000) (hr:r < ((parOf p.types x.sig+manyB x.blocks:Nat):Int)) :
  Calls Tryz.prog 72 #[v,.int .i64 k,.int .i64 r] w (TwoR (whereB (parOf p.types x.sig) x.blocks r) (whereI (parOf p.types x.sig) x.blocks r) w):=by
 have hp0:=hp
 obtain ⟨vt,vf,rfl,ht,hf⟩:=hp
 obtain ⟨W,hW⟩:∃ W,W=w.alloc (.cells #[vt,vf] 27):=⟨_,rfl⟩
 have hbW:Below w.heap.size w W:=by rw [hW];exact alloc_below _ _
 have k1:W.heap[w.heap.size]?=some (.cells #[vt,vf] 27 (0,0)):=by rw [hW];exact alloc_new _ _
 obtain ⟨fb,foff,fcap,vb,rfl,hfb,c0,c1,hbl⟩:=fn_at hf h1
 have hblW:=hbl.below blkStays hbW
 have hpW:=hp0.below hbW
 have HN:=hid (fun (j i:Nat) (hj:j≤x.blocks.length) (hi:i≤1000000) wx (hx:Aft W wx)=>number_calls p k k x j i _ wx (hpW.below hx.below) h1 hj hle hi)
 have d1:=later ((hbW.cell (p:=⟨fb,foff+k * 2+1,none⟩) hfb).trans c1)
 obtain ⟨ta,tc,rfl⟩:=ht.slice
 obtain ⟨ba,bc,rfl,_⟩:=hbl.slice
 have l0:=later_cells k1 0 _ rfl;have l1:=later_cells k1 1 _ rfl
 have hkl:(k:Int) < p.funcs.length:=by have:=h1.lt;omega
 have hk0:(0:Int)≤k:=by omega
 have HBW:=hid hbW
 have HW:=hid hW
 have HBL:=hid hblW
 have HR:=hid hr
 have HML:=hid (fun j (h:j < x.blocks.length)=>manyB_mem h)
 have HMN:Hid (manyB x.blocks≤1000000):=by show _≤_;omega
 have HWH:=hid (fun (j i:Nat) (hj:j < x.blocks.length) (hi:i < x.blocks[j].ins.length)=>where_at (par:=parOf p.types x.sig) hj hi)
 have HWP:Hid (r < (parOf p.types x.sig:Nat)→whereB (parOf p.types x.sig) x.blocks r = -1∧whereI (parOf p.types x.sig) x.blocks r=r):=fun h=>by unfold whereB whereI;rw [if_pos h,if_pos h];exact ⟨rfl,rfl⟩
 have h0:=Aft.refl W
 clear ht hf hpW hblW hbW hW k1 hbl h1 c0 c1 hle hr hp0
 generalize parOf p.types x.sig=par at *
 obtain ⟨sg,bl⟩:=x
 simp only at *
 generalize p.types.length=n1 at *
 generalize p.funcs.length=n2 at *
 go_enter Tryz.func72,Tryz.ntmps72
 go_wp2_with fail
 rw [← HW.out]
 go_loopg [8,9] bl.length (fun gk i _ wr=>∃ j:Nat,j+gk=bl.length∧i=.int .i64 j∧Ahead par (manyB (bl.take j)) r∧Aft W wr)
 case atStart=>exact ⟨0,by omega,rfl,by unfold Ahead;simp [manyB_nil];omega,h0⟩
 case round =>
  obtain ⟨j,hj,rfl,hah,hwr⟩:=hrel
  clear h0
  have HK:=hid hj
  have HAH:=hid hah
  clear hah
  by_cases hlt:j < bl.length
  rotate_left
  ·obtain rfl:j=bl.length:=by omega
   have hpr:r < par:=by
    have:=HAH.out
    rw [List.take_length] at this
    have:=HR.out
    unfold Ahead at *
    omega
   obtain ⟨e1,e2⟩:=HWP.out hpr
   have HE1:=hid e1
   have HE2:=hid e2
   clear e1 e2 HAH HN HWH HML HBL hj hlt
   generalize bl.length=n4 at *
   go_wp2
   go_ret2
   exact ⟨by rw [HE1.out,HE2.out];rfl,hwr.out HBW.out⟩
  obtain ⟨b,bo,hbo,hbs,vi,b0,b1,b2,b3,b4,hins⟩:=HBL.out.at j hlt
  subst hbo
  have j0:=later b0
  obtain ⟨ia,ic,rfl,hil⟩:=hins.slice
  have HMT:=hid (manyB_take hlt)
  have HWJ:=hid (fun i (hi:i < bl[j].ins.length)=>HWH.out j i hlt hi)
  have hilm:=HML.out j hlt
  have HIL:Hid (bl[j].ins.length≤1000000):=by show _≤_;have:=HMN.out;omega
  have HNJ:=hid (fun i (hi:i≤1000000) wx hx=>HN.out j i (by omega) hi wx hx)
  clear b0 b1 b2 b3 b4 hbs hins hilm hj
  generalize bl[j].ins.length=il at *
  generalize manyB (bl.take j)=mj at *
  have hlj:(j:Int) < bl.length:=by omega
  have hj0:(0:Int)≤j:=by omega
  obtain ⟨wo,hwo⟩:∃ wo:World,wo=wr:=⟨wr,rfl⟩
  subst hwo
  obtain ⟨go,hgo⟩:∃ go:Nat,go=gk:=⟨gk,rfl⟩
  subst hgo
  have HRO:=hid hwr
  go_wp2_with fail
  clear hwr
  go_loopg [9] il (fun gq q wq=>∃ i:Nat,i+gq=il∧q=.int .i64 i∧Ahead par (mj+i) r∧Aft W wq)
  case atStart=>exact ⟨0,by omega,rfl,HAH.out,HRO.out⟩
  case round =>
   obtain ⟨i,hi,rfl,hah,hwr⟩:=hrel
   have HQ:=hid hi
   have HAI:=hid hah
   clear hah
   by_cases hli:i < il
   rotate_left
   ·obtain rfl:i=il:=by omega
    have HNX:Hid (Ahead par (manyB (bl.take (j+1))) r):=by show Ahead _ _ _;rw [HMT.out];exact HAI.out
    clear hi hli HAI
    go_wp2
    go_roundg (go - 1)
    case measure=>have:=HK.out;omega
    case rel=>exact ⟨j+1,by have:=HK.out;omega,by go_num,HNX.out,hwr⟩
   have HC:=hid (HNJ.out i (by have:=HIL.out;omega) _ hwr)
   have HWI:=hid (HWJ.out i hli)
   have hlq:(i:Int) < il:=by omega
   by_cases he:((par+(mj+i):Nat):Int)=r
   ·subst he
    obtain ⟨e1,e2⟩:=HWI.out
    have HE1:=hid e1
    have HE2:=hid e2
    clear e1 e2 HWI HWJ HWP HWH HNJ HN HAI HAH HR hli hi HML HBL hlt HMT HK
    generalize whereB par bl ((par+(mj+i):Nat):Int)=ub at *
    generalize whereI par bl ((par+(mj+i):Nat):Int)=ui at *
    generalize bl.length=n4 at *
    generalize ((par+(mj+i):Nat):Int)=r at *
    go_wp2_with fail
    refine HC.out.mono ?_
    rintro e w5 ⟨rfl,hb5⟩
    have h5:=hwr.go hb5
    clear hb5 HC
    go_wp2
    go_ret2
    exact ⟨by rw [HE1.out,HE2.out];rfl,h5.out HBW.out⟩
   ·have HNX:Hid (Ahead par (mj+(i+1)) r):=by
     have:=HAI.out
     show Ahead _ _ _
     unfold Ahead at *
     omega
    have hne:(((par+(mj+i):Nat):Int) == r)=false:=by simpa using he
    clear HWI HWJ HWP HWH HNJ HN HAI hli hi he
    generalize ((par+(mj+i):Nat):Int)=nn at *
    go_wp2_with fail
    refine HC.out.mono ?_
    rintro e w5 ⟨rfl,hb5⟩
    have h5:=hwr.go hb5
    clear hb5 HC
    go_wp2
    go_roundg (gk - 1)
    case measure=>have:=HQ.out;omega
    case rel=>exact ⟨i+1,by have:=HQ.out;omega,by go_num,HNX.out,h5⟩
end Go.Proofs.YtpejpnffcepdlaaGreatDoor.ShRH

namespace Go.Proofs.YtpejpnffcepdlaaGreatDoor.ShRI
open Go.RowKit Go.Lib RwO SetP IntO TyM TyP TyB TyC TyRA ShM ShP ShA ShB ShC ShE ShRA ShH ShI ShJ ShK ShRG ShRH Aft

theorem placeR_calls (p:Px) (f r:Int) (v:Value) (w:World) (hp:PrAt w v p) (hs:Small p) (hok:POk p) :
  Calls Tryz.prog 33 #[v,.int .i64 f,.int .i64 r] w (ThreeR (placeB p f r) (placeI p f r) (placeE p f r) w):=by
 have hp0:=hp
 obtain ⟨vt,vf,rfl,ht,hf⟩:=hp
 obtain ⟨W,hW⟩:∃ W,W=w.alloc (.cells #[vt,vf] 27):=⟨_,rfl⟩
 have hbW:Below w.heap.size w W:=by rw [hW];exact alloc_below _ _
 have k1:W.heap[w.heap.size]?=some (.cells #[vt,vf] 27 (0,0)):=by rw [hW];exact alloc_new _ _
 have hpW:=hp0.below hbW
 have HA:=hid (asked_calls p f _ W hpW hs hok)
 have HCT:=hid (fun (k:Nat) (x:Fx) (h:Has1 p f k x) (hle:parOf p.types x.sig+manyB x.blocks≤1000000) wx (hx:Aft W wx)=>count_calls p f k x _ wx (hpW.below hx.below) h hle)
 have HWT:=hid (fun (k:Nat) (x:Fx) (h:Has1 p k k x) (hle:parOf p.types x.sig+manyB x.blocks≤1000000) (hr:r < ((parOf p.types x.sig+manyB x.blocks:Nat):Int)) wx (hx:Aft W wx)=>where_calls p k x r _ wx (hpW.below hx.below) h hle hr)
 obtain ⟨ta,tc,rfl⟩:=ht.slice
 obtain ⟨fa,fc,rfl,_⟩:=hf.slice
 have l0:=later_cells k1 0 _ rfl;have l1:=later_cells k1 1 _ rfl
 have HBW:=hid hbW
 have HW:=hid hW
 have h0:=Aft.refl W
 have HS:=hid hs
 have HPE:Hid (placeE p f r=if findP p f≠0 then findP p f else if 0≤r∧r < cntP p f then 0 else 2):=rfl
 have HPB:Hid (placeB p f r=if placeE p f r≠0 then (0:Int) else if r < parOf p.types (fnP p f).sig then (-1:Int) else (((locate (fnP p f).blocks (r - parOf p.types (fnP p f).sig).toNat).1:Nat):Int)):=rfl
 have HPI:Hid (placeI p f r=if placeE p f r≠0 then (0:Int) else if r < parOf p.types (fnP p f).sig then r else (((locate (fnP p f).blocks (r - parOf p.types (fnP p f).sig).toNat).2:Nat):Int)):=rfl
 generalize placeB p f r=pb at *
 generalize placeI p f r=pi at *
 generalize placeE p f r=pe at *
 clear ht hf hpW hbW hW k1 hp0 hs hok
 by_cases hz:findP p f=0
 rotate_left
 ·rw [if_pos hz] at HPE
  rw [HPE.out,if_pos hz] at HPB HPI
  rw [HPE.out,HPB.out,HPI.out]
  have e0:(findP p f != 0)=true:=by simpa using hz
  have e1:(findP p f == 0)=false:=by simpa using hz
  clear HCT HWT HS hz HPE HPB HPI
  generalize findP p f=fe at *
  generalize p.types.length=n1 at *
  generalize p.funcs.length=n2 at *
  go_enter Tryz.func33,Tryz.ntmps33
  go_wp2_with fail
  rw [← HW.out]
  refine HA.out.mono ?_
  rintro e w1 ⟨rfl,hb1⟩
  have h1:=h0.go hb1
  clear HA hb1
  go_wp2
  go_returns
  exact ⟨rfl,h1.out HBW.out⟩
 rw [if_neg (fun h=>h hz)] at HPE
 rw [hz] at HA
 by_cases r0:r < 0
 ·rw [if_neg (by omega)] at HPE
  rw [HPE.out,if_pos (by decide)] at HPB HPI
  rw [HPE.out,HPB.out,HPI.out]
  clear HCT HWT HS hz HPE HPB HPI
  generalize p.types.length=n1 at *
  generalize p.funcs.length=n2 at *
  go_enter Tryz.func33,Tryz.ntmps33
  go_wp2_with fail
  rw [← HW.out]
  refine HA.out.mono ?_
  rintro e w1 ⟨rfl,hb1⟩
  have h1:=h0.go hb1
  have HE:=hid (h1.out HBW.out)
  clear HA hb1
  go_wp2<;>first | (exfalso;omega) | (go_returns;exact ⟨rfl,HE.out⟩)
 obtain ⟨k,x,h1⟩:=has1 hz
 have hle:parOf p.types x.sig+manyB x.blocks≤1000000:=by
  have:=par_le HS.out.parts h1.sig0 h1.sig1
  have:=h1.many
  omega
 have HC:=hid (HCT.out k x h1 hle)
 have hke:=h1.eq
 subst hke
 have HWH:=hid (fun hr=>HWT.out k x h1 hle hr)
 rw [cnt_at h1] at HPE
 rw [fn_eq h1] at HPB HPI
 clear HCT HWT HS hz hle h1
 by_cases r1:((parOf p.types x.sig+manyB x.blocks:Nat):Int)≤r
 ·rw [if_neg (by omega)] at HPE
  rw [HPE.out,if_pos (by decide)] at HPB HPI
  rw [HPE.out,HPB.out,HPI.out]
  clear HWH HPE HPB HPI
  generalize parOf p.types x.sig+manyB x.blocks=cnt at *
  generalize p.types.length=n1 at *
  generalize p.funcs.length=n2 at *
  go_enter Tryz.func33,Tryz.ntmps33
  go_wp2_with fail
  all_goals (try (exfalso;omega))
  rw [← HW.out]
  refine HA.out.mono ?_
  rintro e w1 ⟨rfl,hb1⟩
  have h1:=h0.go hb1
  have HC1:=hid (HC.out w1 h1)
  clear HA hb1 HC
  go_wp2_with fail
  all_goals (try (exfalso;omega))
  refine HC1.out.mono ?_
  rintro e w2 ⟨rfl,hb2⟩
  have h2:=h1.go hb2
  have HE:=hid (h2.out HBW.out)
  clear HC1 hb2
  go_wp2<;>first | (exfalso;omega) | (go_returns;exact ⟨rfl,HE.out⟩)
 have hr:r < ((parOf p.types x.sig+manyB x.blocks:Nat):Int):=by omega
 rw [if_pos (by omega)] at HPE
 rw [HPE.out,if_neg (fun h=>h rfl)] at HPB HPI
 have HWC:=hid (HWH.out hr)
 have eb:whereB (parOf p.types x.sig) x.blocks r=pb:=HPB.out.symm
 have ei:whereI (parOf p.types x.sig) x.blocks r=pi:=HPI.out.symm
 rw [eb,ei] at HWC
 rw [HPE.out]
 clear HWH HPE HPB HPI eb ei
 generalize parOf p.types x.sig+manyB x.blocks=cnt at *
 generalize p.types.length=n1 at *
 generalize p.funcs.length=n2 at *
 go_enter Tryz.func33,Tryz.ntmps33
 go_wp2_with fail
 all_goals (try (exfalso;omega))
 rw [← HW.out]
 refine HA.out.mono ?_
 rintro e w1 ⟨rfl,hb1⟩
 have h1:=h0.go hb1
 have HC1:=hid (HC.out w1 h1)
 clear HA hb1 HC
 go_wp2_with fail
 all_goals (try (exfalso;omega))
 refine HC1.out.mono ?_
 rintro e w2 ⟨rfl,hb2⟩
 have h2:=h1.go hb2
 have HC2:=hid (HWC.out w2 h2)
 clear HC1 hb2 HWC
 go_wp2_with fail
 all_goals (try (exfalso;omega))
 refine HC2.out.mono ?_
 rintro e w3 ⟨rfl,hb3⟩
 have h3:=h2.go hb3
 have HE:=hid (h3.out HBW.out)
 clear HC2 hb3
 go_wp2<;>first | (exfalso;omega) | (go_returns;exact ⟨rfl,HE.out⟩)
end Go.Proofs.YtpejpnffcepdlaaGreatDoor.ShRI
namespace Go.Proofs.YtpejpnffcepdlaaGreatDoor.FdE
open Go.RowKit Go.Lib RwO SetP IntO TyM TyP TyB TyC TyRA ShM ShP ShA ShB ShC ShE ShRA ShH ShI ShJ ShK ShL ShRG ShRH ShRI Aft FwM FwC FwP FwQ FwR FvA FvB FvC FvP RwB FvD FdM FdQ FdA ShBP 

theorem isSet_calls (p:Px) (f r block pl:Int) (v:Value) (w:World) (hp:PrAt w v p) (hs:Small p) (hok:POk p) (hz:findP p f=0) (hr:placeE p f r=0) (hbk:0≤block∧block < (blsP p f).length) :
  Calls Tryz.prog 177 #[v,.int .i64 f,.int .i64 r,.int .i64 block,.int .i64 pl] w (BoolR (isSetL (parOf p.types (fnP p f).sig) (blsP p f) r block pl) w):=by
 have hp0:=hp
 obtain ⟨vt,vf,rfl,ht,hf⟩:=hp
 obtain ⟨W,hW⟩:∃ W,W=w.alloc (.cells #[vt,vf] 27):=⟨_,rfl⟩
 have hbW:Below w.heap.size w W:=by rw [hW];exact alloc_below _ _
 have k1:W.heap[w.heap.size]?=some (.cells #[vt,vf] 27 (0,0)):=by rw [hW];exact alloc_new _ _
 have hpW:=hp0.below hbW
 have HPW:=hid hpW
 have HS:=hid hs
 have HFN:=hid (fun (k:Nat) (x:Fx) (h1:Has1 p f k x)=>fn_later (hf.below fnStays hbW) h1)
 have HOK:=hid hok
 obtain ⟨ta,tc,rfl⟩:=ht.slice
 obtain ⟨fa,fc,rfl,_⟩:=hf.slice
 have l0:=later_cells k1 0 _ rfl;have l1:=later_cells k1 1 _ rfl
 have HBW:=hid hbW
 have HW:=hid hW
 have h0:=Aft.refl W
 clear ht hf hpW hbW hW k1 hp0 hs hok
 obtain ⟨hlow,hl0,hl16⟩:=low_fn HOK.out hz
 obtain ⟨k,x,h1⟩:=has1 hz
 have hke:=h1.eq
 have hle:parOf p.types x.sig+manyB x.blocks≤1000000:=by
  have:=par_le HS.out.parts h1.sig0 h1.sig1
  have:=h1.many
  omega
 subst hke
 obtain ⟨r0,r1⟩:0≤r∧r < ((parOf p.types x.sig+manyB x.blocks:Nat):Int):=by
  unfold placeE at hr
  rw [if_neg (fun e=>e hz),cnt_at h1] at hr
  by_cases hh:0≤r∧r < ((parOf p.types x.sig+manyB x.blocks:Nat):Int)
  ·exact hh
  ·rw [if_neg hh] at hr;cases hr
 have HWH:=hid (where_calls p k x r _ W HPW.out h1 hle r1)
 rw [fn_blocks h1] at hlow hl0 hl16 hbk ⊢
 rw [fn_eq h1]
 obtain ⟨fb,foff,fcap,ao,bc,he,d0,d1,hbl⟩:=HFN.out k x h1
 cases he
 obtain ⟨j,hj⟩:∃ j:Nat,block=j:=⟨block.toNat,by omega⟩
 subst hj
 have HD:Hid (isSetL (parOf p.types x.sig) x.blocks r (j:Int) pl=if r < parOf p.types x.sig then true else if (((locate x.blocks (r - parOf p.types x.sig).toNat).1:Nat):Int)=j then decide ((((locate x.blocks (r - parOf p.types x.sig).toNat).2:Nat):Int) < pl) else ruledL x.blocks (locate x.blocks (r - parOf p.types x.sig).toNat).1 j):=rfl
 have hkl:=h1.lt
 by_cases hp:r < parOf p.types x.sig
 ·have HB1:whereB (parOf p.types x.sig) x.blocks r = -1:=by unfold whereB;rw [if_pos hp]
  have HI1:whereI (parOf p.types x.sig) x.blocks r=r:=by unfold whereI;rw [if_pos hp]
  rw [HB1,HI1] at HWH
  rw [if_pos hp] at HD
  rw [HD.out]
  clear HFN HOK HPW HS h1 hz hr hbk r0 r1 hbl hlow hl0 hl16 hle hp HD HB1 HI1
  generalize x.blocks.length=n3 at *
  generalize p.types.length=n1 at *
  generalize p.funcs.length=n2 at *
  go_enter Tryz.func177,Tryz.ntmps177
  go_wp2_with fail
  rw [← HW.out]
  refine HWH.out.mono ?_
  rintro e w1 ⟨rfl,hb1⟩
  have h1:=h0.go hb1
  clear HWH hb1
  go_wp2
  go_ret
  exact ⟨rfl,h1.out HBW.out⟩
 obtain ⟨c,q,hc,hloc,hm,hq⟩:=locate_spec x.blocks (r - parOf p.types x.sig).toNat (by omega)
 have HB1:whereB (parOf p.types x.sig) x.blocks r=c:=by unfold whereB;rw [if_neg hp,hloc]
 have HI1:whereI (parOf p.types x.sig) x.blocks r=q:=by unfold whereI;rw [if_neg hp,hloc]
 rw [HB1,HI1] at HWH
 rw [if_neg hp,hloc] at HD
 simp only at HD
 have HC:=hid (fun wx (h:Aft W wx)=>ruled_calls x.blocks c j _ wx (hbl.below blkStays h.below) hlow hc (by omega) (by omega))
 generalize isSetL (parOf p.types x.sig) x.blocks r (j:Int) pl=ans at *
 clear HFN HOK HPW HS h1 hz hr hbk r0 r1 hbl hlow hl0 hl16 hle hp HB1 HI1 hloc hm hq hc
 obtain ⟨sg,bl⟩:=x
 simp only at *
 by_cases hcj:(c:Int)=(j:Int)
 ·rw [if_pos hcj] at HD
  have hd:((c:Int) == (j:Int))=true:=by simpa using hcj
  rw [HD.out]
  clear HD HC hcj
  generalize bl.length=n3 at *
  generalize p.types.length=n1 at *
  generalize p.funcs.length=n2 at *
  go_enter Tryz.func177,Tryz.ntmps177
  go_wp2_with fail
  rw [← HW.out]
  refine HWH.out.mono ?_
  rintro e w1 ⟨rfl,hb1⟩
  have h1:=h0.go hb1
  clear HWH hb1
  go_wp2
  go_ret
  exact ⟨rfl,h1.out HBW.out⟩
 ·rw [if_neg hcj] at HD
  have hd:((c:Int) == (j:Int))=false:=beq_false_of_ne hcj
  rw [HD.out]
  clear HD hcj
  generalize ruledL bl c j=tl at *
  generalize bl.length=n3 at *
  generalize p.types.length=n1 at *
  generalize p.funcs.length=n2 at *
  go_enter Tryz.func177,Tryz.ntmps177
  go_wp2_with fail
  rw [← HW.out]
  refine HWH.out.mono ?_
  rintro e w1 ⟨rfl,hb1⟩
  have h1:=h0.go hb1
  have HC1:=hid (HC.out w1 h1)
  clear HWH hb1 HC
  go_wp2_with fail
  refine HC1.out.mono ?_
  rintro e w2 ⟨rfl,hb2⟩
  have h2:=h1.go hb2
  clear HC1 hb2
  go_wp2
  go_ret
  exact ⟨rfl,h2.out HBW.out⟩
end Go.Proofs.YtpejpnffcepdlaaGreatDoor.FdE
namespace Go.Proofs.YtpejpnffcepdlaaGreatDoor.SoM
open TyM ShM ShP ShE ShH ShI ShN ShJ ShK ShL ShBP FwM FwC FwP FwQ FdM FdQ FeP FxL LvM LvQ

structure Wf (par:Nat) (l:List Bx):Prop where
 low:Low l
 pos:0 < l.length
 reach:∀ b,b < l.length→FwM.Comes (succ l) 0 b
 uses:∀ (b k:Nat) (x:Ix),b < l.length→(insAt l b)[k]?=some x→x.op≠22→∀ r∈usesOf x,isSetL par l r b k=true
 ends:∀ b:Nat,b < l.length→∀ r∈endsOf (endAt l b),isSetL par l r b (insAt l b).length=true
 phis:∀ (j b:Nat) (x:Ix) (r:Int),j < l.length→b < l.length→x∈insAt l j→x.op=22→((b:Int),r)∈x.frm.zip x.args→isSetL par l r b (insAt l b).length=true
theorem set_loc {par:Nat} {l:List Bx} {r:Nat} (hr:r < par+manyB l):r < par∨∃ c q,c < l.length∧q < (insAt l c).length∧r=par+manyB (l.take c)+q∧locate l (((r:Int) - par).toNat)=(c,q):=by
 by_cases h:r < par
 ·exact .inl h
 ·obtain ⟨c,q,hc,hl,hm,hq⟩:=locate_spec l (((r:Int) - par).toNat) (by omega)
  refine .inr ⟨c,q,hc,?_,by omega,hl⟩
  unfold insAt
  rw [List.getElem?_eq_getElem hc]
  exact hq
theorem set_par {par:Nat} {l:List Bx} {r:Nat} {b k:Int} (h:r < par):isSetL par l r b k=true:=by
 unfold isSetL
 rw [if_pos (by omega)]
theorem set_at {par:Nat} {l:List Bx} {r b k c q:Nat} (h:¬ r < par) (hl:locate l (((r:Int) - par).toNat)=(c,q)):isSetL par l r b k=if c=b then decide (q < k) else ruledL l c b:=by
 unfold isSetL
 rw [if_neg (by omega),hl]
 by_cases e:c=b
 ·rw [if_pos e,if_pos (by show ((c:Nat):Int)=(b:Int);omega)]
  exact decide_eq_decide.2 (by show ((q:Nat):Int) < (k:Int)↔q < k;omega)
 ·rw [if_neg e,if_neg (by show ¬ ((c:Nat):Int)=(b:Int);omega),Int.toNat_natCast]
end Go.Proofs.YtpejpnffcepdlaaGreatDoor.SoM
