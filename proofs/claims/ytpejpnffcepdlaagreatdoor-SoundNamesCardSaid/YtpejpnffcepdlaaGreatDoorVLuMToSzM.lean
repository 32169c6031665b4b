/- Plain facts: what the reference's Lives and atEnd do to a row of bools, step by step; which registers they meet. Plain facts for ShapeBack: where a register lies, and the next one. Plain facts: of a function that is well formed, what lives at a place is set there. What layer 12 answers of a program, in plain: registers' types, and which programs are well formed. What is asked of the package sound: its functions' contracts, as propositions. Plain facts on programs that are well formed. One of the types in memory, in every world behind; of what kind types are. Walk over fescuelaw12.chapter. Walk over fescuelaw12.alive. Plain facts: registers' types as a list, what is set by rulers from one to the next, and what keeps a program from being well formed. -/
import Derived.Test.YtpejpnffcepdlaaGreatDoorVDmIToLvQ
import Derived.Test.YtpejpnffcepdlaaGreatDoorVTyMToShN
import Derived.Test.YtpejpnffcepdlaaGreatDoorVShIToBlkG
import Derived.Test.YtpejpnffcepdlaaGreatDoorVIntOToSwXd
import Derived.Deep.RegionHeld3
set_option maxRecDepth 100000
set_option maxHeartbeats 16000000
namespace Go.Proofs.YtpejpnffcepdlaaGreatDoor.LuM
open TyM ShM ShP ShE ShH ShI ShN ShJ FwM FwC FwP FwQ FdQ FxL LvM LvQ

structure Regs (N:Nat) (l:List Bx):Prop where
 uses:∀ b∈l,∀ x∈b.ins,∀ r∈usesOf x,0≤r∧r < N
 ends:∀ b∈l,∀ r∈endsOf b.en,0≤r∧r < N
 phi:∀ b∈l,∀ x∈b.ins,x.op=22→x.frm.length=x.args.length∧∀ r∈x.args,0≤r∧r < N
 other:∀ b∈l,∀ x∈b.ins,x.op≠22→x.frm=[]
 few:∀ b∈l,∀ x∈b.ins,x.args.length≤16
 many:manyB l≤128
theorem low_mem {n r:Int} {L:List Int} (h:lowB n L=true) (hr:r∈L):0≤r∧r < n:=by
 unfold lowB at h
 have:=List.all_eq_true.1 h r hr
 simpa using this
theorem regs_of {p:Px} {f:Fx} (h:chkP p=0) (ho:POk p) (hf:f∈p.funcs):Regs (parOf p.types f.sig+manyB f.blocks) f.blocks:=by
 unfold chkP at h
 split at h
 ·rename_i hc;exact absurd h hc
 split at h
 ·exact absurd h (by decide)
 split at h
 ·rename_i hall
  have hmf:=List.all_eq_true.1 hall f hf
  unfold mayF at hmf
  split at hmf
  ·cases hmf
  split at hmf
  ·cases hmf
  split at hmf
  ·cases hmf
  rename_i hbl
  have hi:∀ b∈f.blocks,∀ x∈b.ins,mayIR p.types.length ((parOf p.types f.sig+manyB f.blocks:Nat):Int) p.funcs.length f.blocks.length x=true:=by
   intro b hb x hx
   have hbb:=List.all_eq_true.1 hmf b hb
   unfold mayBl at hbb
   simp only [Bool.and_eq_true] at hbb
   have:=List.all_eq_true.1 hbb.2 x hx
   rwa [mayI_eq ((ho f hf b hb).2 x hx).1] at this
  have he:∀ b∈f.blocks,mayER ((parOf p.types f.sig+manyB f.blocks:Nat):Int) f.blocks.length b.en=true:=by
   intro b hb
   have hbb:=List.all_eq_true.1 hmf b hb
   unfold mayBl at hbb
   simp only [Bool.and_eq_true] at hbb
   have:=hbb.1
   rwa [mayE_eq (ho f hf b hb).1.1] at this
  have hu:∀ b∈f.blocks,∀ x∈b.ins,lowB ((parOf p.types f.sig+manyB f.blocks:Nat):Int) (usesOf x)=true:=by
   intro b hb x hx
   have h1:=hi b hb x hx
   unfold mayIR at h1
   split at h1
   ·cases h1
   rename_i hn
   cases e:lowB ((parOf p.types f.sig+manyB f.blocks:Nat):Int) (usesOf x) with
   | true=>rfl
   | false=>exact absurd (.inr (.inr (.inl e))) hn
  have hphi:∀ b∈f.blocks,∀ x∈b.ins,(x.op=22→x.frm.length=x.args.length∧x.frm.length≤16)∧(x.op≠22→x.frm=[]∧x.args.length≤4):=by
   intro b hb x hx
   have h1:=hi b hb x hx
   unfold mayIR at h1
   split at h1
   ·cases h1
   split at h1
   ·cases h1
   split at h1
   ·cases h1
   split at h1
   ·rename_i h22
    simp only [Bool.and_eq_true,decide_eq_true_eq] at h1
    exact ⟨fun _=>⟨h1.1.1,h1.1.2.2⟩,fun e=>absurd h22 e⟩
   ·rename_i h22
    have h2:=of_decide_eq_true h1
    exact ⟨fun e=>absurd e h22,fun _=>⟨List.eq_nil_of_length_eq_zero h2.1,h2.2⟩⟩
  refine ⟨fun b hb x hx r hr=>low_mem (hu b hb x hx) hr,fun b hb r hr=>?_,fun b hb x hx h22=>⟨((hphi b hb x hx).1 h22).1,fun r hr=>low_mem (hu b hb x hx) ?_⟩,fun b hb x hx h22=>((hphi b hb x hx).2 h22).1,fun b hb x hx=>?_,by omega⟩
  ·have h1:=he b hb
   unfold mayER at h1
   unfold endsOf at hr
   split at hr
   ·rename_i hk
    obtain rfl:=List.mem_singleton.1 hr
    split at h1
    ·rename_i e;omega
    split at h1
    ·simp only [Bool.and_eq_true] at h1
     exact low_mem h1.1 (by simp)
    split at h1
    ·simp only [Bool.and_eq_true] at h1
     exact low_mem h1.2 (by simp)
    ·cases h1
   ·cases hr
  ·have ha:argsB x.op=true:=by rw [h22];decide
   unfold usesOf
   rw [if_pos ha]
   simp [hr]
  ·by_cases e:x.op=22
   ·have:=(hphi b hb x hx).1 e;omega
   ·have:=(hphi b hb x hx).2 e;omega
 ·exact absurd h (by decide)

/-! bools, step by step -/
def seen (x:Ix):List Int:=if x.op=22 then [] else usesOf x
/-! at a block's end: one that comes behind it after the other -/
/-! the rounds -/
end Go.Proofs.YtpejpnffcepdlaaGreatDoor.LuM
namespace Go.Proofs.YtpejpnffcepdlaaGreatDoor.ShBP
open Go.RowKit Go.Lib SetP IntO TyM TyP TyB TyC ShM ShP ShA ShB ShC ShE ShQ ShF ShG ShH ShI ShJ ShK ShL

theorem locate_spec:∀ (l:List Bx) (n:Nat),n < manyB l→∃ (j i:Nat) (h:j < l.length),locate l n=(j,i)∧manyB (l.take j)+i=n∧i < l[j].ins.length
 | [],n,h=>by simp [manyB_nil] at h
 | b :: l,n,h=>by
  by_cases hb:n < b.ins.length
  ·exact ⟨0,n,by simp,by unfold locate;rw [if_pos hb],by simp [manyB_nil],by simpa using hb⟩
  ·rw [manyB_cons] at h
   obtain ⟨j,i,hj,h1,h2,h3⟩:=locate_spec l (n - b.ins.length) (by omega)
   refine ⟨j+1,i,by simpa using hj,by unfold locate;rw [if_neg hb,h1],?_,by simpa using h3⟩
   rw [List.take_succ_cons,manyB_cons];omega
theorem many_mono (l:List Bx) {a b:Nat} (h:a≤b):manyB (l.take a)≤manyB (l.take b):=by
 have:=manyB_le (l.take b) a
 rwa [List.take_take,Nat.min_eq_left h] at this
theorem back_in {p:Px} {f:Int} {k n:Nat} {x:Fx} {j i:Nat} (hz:findP p f=0) (h1:Has1 p f k x) (hn:n < manyB x.blocks) (hl:locate x.blocks n=(j,i)):placeE p f ((parOf p.types x.sig+n:Nat):Int)=0∧placeB p f ((parOf p.types x.sig+n:Nat):Int)=j∧placeI p f ((parOf p.types x.sig+n:Nat):Int)=i:=by
 have he:placeE p f ((parOf p.types x.sig+n:Nat):Int)=0:=by
  unfold placeE
  rw [if_neg (fun e=>e hz),cnt_at h1,if_pos ⟨by omega,by omega⟩]
 have ht:(((parOf p.types x.sig+n:Nat):Int) - (parOf p.types x.sig:Nat)).toNat=n:=by omega
 refine ⟨he,?_,?_⟩
 ·unfold placeB
  rw [he,if_neg (fun e=>e rfl),fn_eq h1,if_neg (by omega),ht,hl]
 ·unfold placeI
  rw [he,if_neg (fun e=>e rfl),fn_eq h1,if_neg (by omega),ht,hl]
end Go.Proofs.YtpejpnffcepdlaaGreatDoor.ShBP
namespace Go.Proofs.YtpejpnffcepdlaaGreatDoor.SoM
open TyM ShM ShP ShE ShH ShI ShN ShJ ShK ShL ShBP FwM FwC FwP FwQ FdM FdQ FeP FxL LvM LvQ

structure Wf (par:Nat) (l:List Bx):Prop where
 low:Low l
 pos:0 < l.length
 reach:∀ b,b < l.length→FwM.Comes (succ l) 0 b
 uses:∀ (b k:Nat) (x:Ix),b < l.length→(insAt l b)[k]?=some x→x.op≠22→∀ r∈usesOf x,isSetL par l r b k=true
 ends:∀ b:Nat,b < l.length→∀ r∈endsOf (endAt l b),isSetL par l r b (insAt l b).length=true
 phis:∀ (j b:Nat) (x:Ix) (r:Int),j < l.length→b < l.length→x∈insAt l j→x.op=22→((b:Int),r)∈x.frm.zip x.args→isSetL par l r b (insAt l b).length=true
theorem set_loc {par:Nat} {l:List Bx} {r:Nat} (hr:r < par+manyB l):r < par∨∃ c q,c < l.length∧q < (insAt l c).length∧r=par+manyB (l.take c)+q∧locate l (((r:Int) - par).toNat)=(c,q):=by
 by_cases h:r < par
 ·exact .inl h
 ·obtain ⟨c,q,hc,hl,hm,hq⟩:=locate_spec l (((r:Int) - par).toNat) (by omega)
  refine .inr ⟨c,q,hc,?_,by omega,hl⟩
  unfold insAt
  rw [List.getElem?_eq_getElem hc]
  exact hq
theorem set_par {par:Nat} {l:List Bx} {r:Nat} {b k:Int} (h:r < par):isSetL par l r b k=true:=by
 unfold isSetL
 rw [if_pos (by omega)]
theorem set_at {par:Nat} {l:List Bx} {r b k c q:Nat} (h:¬ r < par) (hl:locate l (((r:Int) - par).toNat)=(c,q)):isSetL par l r b k=if c=b then decide (q < k) else ruledL l c b:=by
 unfold isSetL
 rw [if_neg (by omega),hl]
 by_cases e:c=b
 ·rw [if_pos e,if_pos (by show ((c:Nat):Int)=(b:Int);omega)]
  exact decide_eq_decide.2 (by show ((q:Nat):Int) < (k:Int)↔q < k;omega)
 ·rw [if_neg e,if_neg (by show ¬ ((c:Nat):Int)=(b:Int);omega),Int.toNat_natCast]
end Go.Proofs.YtpejpnffcepdlaaGreatDoor.SoM
namespace Go.Proofs.YtpejpnffcepdlaaGreatDoor.SvQ
open TyM ShM ShP ShE ShH ShI ShN ShJ ShK FwM FwC FwP FwQ LvM FdQ

def tyN (t:List Ty) (k:Int):Ty:=(t[k.toNat]?).getD default
def isK (t:List Ty) (k kind:Int):Bool:=decide (0≤k) && decide ((tyN t k).kind=kind)
def insOf (l:List Bx) (b i:Nat):Ix:=(insAt l b)[i]?.getD default
def typeI (t:List Ty) (x:Fx) (r:Int):Int :=
 if r < parOf t x.sig then ((tyN t x.sig).parts[r.toNat]?).getD 0
 else if answersB (insOf x.blocks (locate x.blocks (r - parOf t x.sig).toNat).1 (locate x.blocks (r - parOf t x.sig).toNat).2).op=true then (insOf x.blocks (locate x.blocks (r - parOf t x.sig).toNat).1 (locate x.blocks (r - parOf t x.sig).toNat).2).typ else -1
def toK (t:List Ty) (k:Int):Int:=if isK t k 2=true then (tyN t k).elem else -1
def partK (t:List Ty) (k m:Int):Bool:=decide (0≤m) && decide (toK t k=m)
def scalK (t:List Ty) (k:Int):Bool:=decide (0≤k) && plainB t k
def callK (t:List Ty) (sig:Int) (l:List Int) (k:Int):Bool:=isK t sig 3 && (decide ((tyN t sig).parts=l) && decide ((tyN t sig).elem=k))
def partZ (x:Ty) (n:Int):Int:=if x.kind=4∧0≤n∧n < x.parts.length then (x.parts[n.toNat]?).getD 0 else if x.kind=5∧0≤n∧n < x.many then x.elem else -1
def memB (t:List Ty) (x:Ix) (l:List Int):Bool :=
 if x.op=14 then isK t (toK t (l.getD 0 0)) 4 && partK t x.typ (partZ (tyN t (toK t (l.getD 0 0))) x.n)
 else if x.op=15 then isK t (toK t (l.getD 0 0)) 5 && (isK t (l.getD 1 0) 1 && partK t x.typ (tyN t (toK t (l.getD 0 0))).elem)
 else if x.op=16 then scalK t (toK t (l.getD 0 0)) && decide (x.typ=toK t (l.getD 0 0))
 else scalK t (toK t (l.getD 0 0)) && decide (l.getD 1 0=toK t (l.getD 0 0))
def sigAt (p:Px) (n:Int):Int:=((p.funcs[n.toNat]?).getD default).sig
def typedB (p:Px) (x:Ix) (l:List Int):Bool :=
 if x.op=1∨x.op=20 then isK p.types x.typ 1
 else if x.op=2 then isK p.types x.typ 2 || isK p.types x.typ 3
 else if x.op=3 then decide (x.typ=sigAt p x.n)
 else if 4≤x.op∧x.op≤9 then isK p.types (l.getD 0 0) 1 && (isK p.types (l.getD 1 0) 1 && isK p.types x.typ 1)
 else if x.op=10 then isK p.types (l.getD 0 0) 2 && (decide (l.getD 0 0=l.getD 1 0) && isK p.types x.typ 1)
 else if x.op=11∨x.op=12 then isK p.types x.typ 2
 else if x.op=13 then isK p.types (l.getD 0 0) 2
 else if x.op=21 then isK p.types (l.getD 0 0) 1
 else if 14≤x.op∧x.op≤17 then memB p.types x l
 else if x.op=18 then callK p.types (sigAt p x.n) l x.typ
 else if x.op=19 then callK p.types (l.getD 0 0) (l.drop 1) x.typ
 else l.all (fun n=>decide (n=x.typ)) && scalK p.types x.typ
def typesB (t:List Ty) (x:Fx) (us:List Int):Bool:=us.all fun r=>decide (0≤typeI t x r)
def typesL (t:List Ty) (x:Fx) (us:List Int):List Int:=if typesB t x us=true then us.map (typeI t x) else []
def setsB (par:Nat) (l:List Bx) (us:List Int) (b k:Int):Bool:=us.all fun r=>isSetL par l r b k
def phiB (par:Nat) (l:List Bx) (b k:Nat) (x:Ix):Bool :=
 decide (x.frm=ints (aheadL l b)) && (decide (k=0∨(insOf l b (k - 1)).op=22) && ((x.frm.zip x.args).all fun q=>isSetL par l q.2 q.1 (insAt l q.1.toNat).length))
def rightB (p:Px) (f:Fx) (b k:Nat):Bool :=
 typesB p.types f (usesOf (insOf f.blocks b k)) && (typedB p (insOf f.blocks b k) (typesL p.types f (usesOf (insOf f.blocks b k))) &&
  (if (insOf f.blocks b k).op=22 then phiB (parOf p.types f.sig) f.blocks b k (insOf f.blocks b k) else setsB (parOf p.types f.sig) f.blocks (usesOf (insOf f.blocks b k)) b k))
def endB (p:Px) (f:Fx) (b:Nat):Bool :=
 typesB p.types f (endsOf (endAt f.blocks b)) && (setsB (parOf p.types f.sig) f.blocks (endsOf (endAt f.blocks b)) b (insAt f.blocks b).length && (decide ((0:Int)∉toE (endAt f.blocks b)) &&
  (if (endAt f.blocks b).kind=2 then isK p.types ((typesL p.types f (endsOf (endAt f.blocks b))).getD 0 0) 1
   else if (endAt f.blocks b).kind=3 then decide ((typesL p.types f (endsOf (endAt f.blocks b))).getD 0 0=(tyN p.types f.sig).elem) else true)))
def fnB (p:Px) (f:Fx):Bool :=
 decide ((reachedL f.blocks).length=f.blocks.length) && ((List.range f.blocks.length).all fun b=>((List.range (insAt f.blocks b).length).all fun k=>rightB p f b k) && endB p f b)
def firstB (p:Px):Bool:=decide ((tyN p.types (sigAt p 0)).parts.length=0) && isK p.types (tyN p.types (sigAt p 0)).elem 1
def sndE (p:Px):Int:=if chkP p≠0 then chkP p else if p.funcs.all (fnB p)=true∧firstB p=true then 0 else 120
def kindE (p:Px) (f r:Int):Int:=if sndE p≠0 then sndE p else if placeE p f r≠0 then placeE p f r else if typeI p.types (fnP p f) r < 0 then 6 else 0
def kindN (p:Px) (f r:Int):Int:=if kindE p f r=0 then typeI p.types (fnP p f) r else 0
end Go.Proofs.YtpejpnffcepdlaaGreatDoor.SvQ
namespace Go.Proofs.YtpejpnffcepdlaaGreatDoor.SvK
open Go.RowKit Go.Lib SetP IntO TyM TyP TyB ShM ShP ShA ShB ShI ShJ FwP FwQ FwR FwK FdM FdQ SvQ

def CheckC:Prop:=∀ (p:Px) (v:Value) (w:World),PrAt w v p→Tab w→Small p→POk p →
 Calls Tryz.prog 12 #[v] w (NumR (sndE p) w)
def KindC:Prop:=∀ (p:Px) (f r:Int) (v:Value) (w:World),PrAt w v p→Tab w→Small p→POk p→I64 f→I64 r →
 Calls Tryz.prog 10 #[v,.int .i64 f,.int .i64 r] w (TwoR (kindN p f r) (kindE p f r) w)
end Go.Proofs.YtpejpnffcepdlaaGreatDoor.SvK
namespace Go.Proofs.YtpejpnffcepdlaaGreatDoor.SvP
open TyM ShM ShP ShE ShH ShI ShN ShJ ShK ShL ShBP FwM FwC FwP FwQ FdM FdQ FeP FxL LvM LvQ LuM SoM SvQ

/-! what shape's Check gives of an instruction -/
structure InsOk (nt nf nb nr:Nat) (x:Ix):Prop where
 op1:1≤x.op
 op2:x.op≤22
 uses:∀ r∈usesOf x,0≤r∧r < nr
 typ:answersB x.op=true→0≤x.typ∧x.typ < nt
 typ0:answersB x.op=false→x.typ=0
 n:x.op=3∨x.op=18→0≤x.n∧x.n < nf
 phi:x.op=22→x.frm.length=x.args.length∧1≤x.frm.length∧x.frm.length≤16∧∀ b∈x.frm,0≤b∧b < nb
 other:x.op≠22→x.frm=[]∧x.args.length≤4
theorem insOk_of {nt nr nf nb:Nat} {x:Ix} (h:mayIR nt (nr:Int) nf nb x=true):InsOk nt nf nb nr x:=by
 unfold mayIR at h
 split at h
 ·cases h
 rename_i h1
 split at h
 ·cases h
 split at h
 ·cases h
 rename_i h3
 have hl:lowB (nr:Int) (usesOf x)=true:=by
  cases e:lowB (nr:Int) (usesOf x) with
  | true=>rfl
  | false=>exact absurd (.inr (.inr (.inl e))) h1
 have hn:mayNR nf x=true:=by
  cases e:mayNR nf x with
  | true=>rfl
  | false=>exact absurd (.inr (.inr (.inr e))) h1
 have o1:1≤x.op:=by
  refine Classical.byContradiction fun hh=>h1 (.inl (by omega))
 have o2:x.op≤22:=by
  refine Classical.byContradiction fun hh=>h1 (.inr (.inl (by omega)))
 refine ⟨o1,o2,fun r hr=>low_mem hl hr,fun ha=>?_,fun ha=>?_,fun he=>?_,fun he=>?_,fun he=>?_⟩
 ·refine Classical.byContradiction fun hh=>h3 (.inl ⟨ha,by omega⟩)
 ·refine Classical.byContradiction fun hh=>h3 (.inr ⟨ha,hh⟩)
 ·unfold mayNR at hn
  rw [if_neg (by omega),if_pos he] at hn
  exact of_decide_eq_true hn
 ·rw [if_pos he] at h
  simp only [Bool.and_eq_true,decide_eq_true_eq] at h
  exact ⟨h.1.1,h.1.2.1,h.1.2.2,fun b hb=>low_mem h.2 hb⟩
 ·rw [if_neg he] at h
  simp only [decide_eq_true_eq] at h
  exact ⟨List.eq_nil_of_length_eq_zero h.1,h.2⟩
theorem ins_ok {p:Px} {f:Fx} (h:chkP p=0) (ho:POk p) (hf:f∈p.funcs) {b:Bx} (hb:b∈f.blocks) {x:Ix} (hx:x∈b.ins):InsOk p.types.length p.funcs.length f.blocks.length (parOf p.types f.sig+manyB f.blocks) x:=by
 have hm:=(chk_zero h).2.2.2 f hf
 unfold mayF at hm
 split at hm
 ·cases hm
 split at hm
 ·cases hm
 split at hm
 ·cases hm
 have hbb:=List.all_eq_true.1 hm b hb
 unfold mayBl at hbb
 simp only [Bool.and_eq_true] at hbb
 have h2:=List.all_eq_true.1 hbb.2 x hx
 rw [mayI_eq ((ho f hf b hb).2 x hx).1] at h2
 exact insOk_of h2
theorem insOf_at {l:List Bx} {b k:Nat} {x:Ix} (h:(insAt l b)[k]?=some x):insOf l b k=x:=by unfold insOf;rw [h];rfl
theorem insAt_mem {l:List Bx} {b k:Nat} {x:Ix} (h:(insAt l b)[k]?=some x) (hb:b < l.length):∃ c,c∈l∧x∈c.ins:=by
 refine ⟨l[b],List.getElem_mem hb,?_⟩
 unfold insAt at h
 rw [List.getElem?_eq_getElem hb] at h
 exact List.mem_of_getElem? h

theorem snd_zero {p:Px} (h:sndE p=0):chkP p=0∧(∀ f∈p.funcs,fnB p f=true)∧firstB p=true:=by
 unfold sndE at h
 split at h
 ·rename_i hh;exact absurd h hh
 ·rename_i hh
  split at h
  ·rename_i h2;exact ⟨by omega,List.all_eq_true.1 h2.1,h2.2⟩
  ·cases h
theorem filter_all {α:Type} {q:α→Bool} : ∀ {l:List α},(l.filter q).length=l.length→∀ x∈l,q x=true
 | [],_,x,hx=>by cases hx
 | y :: l,h,x,hx=>by
  have h2:=List.length_filter_le q l
  rw [List.filter_cons] at h
  split at h
  ·rename_i hy
   simp only [List.length_cons] at h
   rcases List.mem_cons.1 hx with e | hx
   ·rw [e];exact hy
   ·exact filter_all (by omega) x hx
  ·simp only [List.length_cons] at h
   omega
theorem all_reached {l:List Bx} (h:(reachedL l).length=l.length) {b:Nat} (hb:b < l.length):b∈reachedL l:=by
 unfold reachedL at h ⊢
 rw [List.mem_filter]
 exact ⟨List.mem_range.2 hb,filter_all (by rw [h,List.length_range]) b (List.mem_range.2 hb)⟩
/-! types -/
theorem ty_at {t:List Ty} {k:Nat} {x:Ty} (h:t[k]?=some x):tyN t (k:Int)=x:=by unfold tyN;rw [Int.toNat_natCast,h];rfl
theorem isK_at {t:List Ty} {k kind:Int} (h:isK t k kind=true):0≤k∧(tyN t k).kind=kind:=by
 unfold isK at h
 simp only [Bool.and_eq_true,decide_eq_true_eq] at h
 exact h
theorem isK_low {t:List Ty} {k kind:Int} (h:isK t k kind=true) (hk:kind≠0):k < t.length:=by
 obtain ⟨h0,h1⟩:=isK_at h
 refine Classical.byContradiction fun hh=>hk ?_
 rw [← h1]
 unfold tyN
 rw [List.getElem?_eq_none (by omega)]
 rfl
theorem good_at {t:List Ty} (h:chkT t=0) {k:Int} (h0:0≤k) (h1:k < t.length):mayX t k.toNat (tyN t k)=true:=by
 have hg:=(chkT_zero h).2 k.toNat (by omega)
 obtain ⟨x,hx,hm,_⟩:=goodB_iff.1 hg
 unfold tyN
 rw [hx]
 exact hm
theorem fn_plain {t:List Ty} (h:chkT t=0) {k:Int} (hk:isK t k 3=true):plainB t (tyN t k).elem=true∧∀ n∈(tyN t k).parts,plainB t n=true:=by
 obtain ⟨h0,h1⟩:=isK_at hk
 have hm:=good_at h h0 (isK_low hk (by decide))
 unfold mayX at hm
 rw [if_neg (by omega),if_neg (by omega),if_pos h1] at hm
 simp only [Bool.and_eq_true] at hm
 exact ⟨hm.2.1,List.all_eq_true.1 hm.2.2.1⟩
end Go.Proofs.YtpejpnffcepdlaaGreatDoor.SvP
namespace Go.Proofs.YtpejpnffcepdlaaGreatDoor.SwA
open Go.RowKit Go.Lib SetP IntO TyM TyP TyB ShM Aft FwP FwQ SvQ SvP

theorem ty_later {W:World} {ta:Option Addr} {n c:Nat} {t:List Ty} (h:TysAt W (.slice ta n c) t) (k:Nat) (hk:k < t.length):∃ g off pa pc,ta=some ⟨g,off,none⟩∧(∀ w',Aft W w'→w'.cell? ⟨g,off+k * 4,none⟩=some (.int .u8 (tyN t k).kind))∧(∀ w',Aft W w'→w'.cell? ⟨g,off+k * 4+1,none⟩=some (.int .i64 (tyN t k).elem)) ∧
  (∀ w',Aft W w'→w'.cell? ⟨g,off+k * 4+2,none⟩=some (.int .i64 (tyN t k).many))∧(∀ w',Aft W w'→w'.cell? ⟨g,off+k * 4+3,none⟩=some (.slice pa (tyN t k).parts.length pc))∧(∀ w',Aft W w'→IntsAt w' (.slice pa (tyN t k).parts.length pc) (tyN t k).parts):=by
 obtain ⟨g,off,rfl,hlt,pv,c0,c1,c2,c3,hp⟩:=h.at k hk
 have he:tyN t k=t[k]:=by unfold tyN;rw [Int.toNat_natCast,List.getElem?_eq_getElem hk];rfl
 obtain ⟨pa,pc,rfl,_⟩:=ints_slice hp
 rw [he]
 exact ⟨g,off,pa,pc,rfl,later c0,later c1,later c2,later c3,fun w' h=>hp.below h.below⟩
theorem isK_no {t:List Ty} {k kind:Int} (h:k < 0):isK t k kind=false:=by unfold isK;rw [decide_eq_false (by omega)];rfl
theorem isK_nat (t:List Ty) (k:Nat) (kind:Int):isK t (k:Int) kind=decide ((tyN t k).kind=kind):=by unfold isK;rw [decide_eq_true (by omega)];rfl
end Go.Proofs.YtpejpnffcepdlaaGreatDoor.SwA
namespace Go.Proofs.YtpejpnffcepdlaaGreatDoor.SyP
open Go.RowKit Go.Lib SetP IntO TyM TyP TyB ShM ShP ShB ShI PgB 

def chapP (op t a b n:Int):Px:=⟨[⟨1,0,0,[]⟩,⟨3,0,0,[]⟩],[⟨1,[⟨[⟨1,0,0,0,5,[],[]⟩],⟨1,0,1,0⟩⟩,⟨[⟨op,t,a,b,n,[],[]⟩],⟨3,1,0,0⟩⟩]⟩]⟩
def chapW (op t a b n:Int) (w:World):World:=(((((((((w.alloc (.cells #[.int .u8 op,.int .i64 t,.int .i64 a,.int .i64 b,.int .i64 n,.slice none 0 0,.slice none 0 0] 31)).alloc (.cells #[.slice (some ⟨w.heap.size+1+1+1+1+1+1,0,none⟩) 2 2,.slice (some ⟨w.heap.size+1+1+1+1+1+1+1+1,0,none⟩) 1 1] 27)).alloc (.cells #[.int .u8 1,.int .i64 0,.int .i64 0,.int .i64 0,.int .i64 5,.slice none 0 0,.slice none 0 0] 31)).alloc (.cells #[.slice (some ⟨w.heap.size+1+1,0,none⟩) 1 1,.int .u8 1,.int .i64 0,.int .i64 1,.int .i64 0] 38)).alloc (.cells #[.int .u8 op,.int .i64 t,.int .i64 a,.int .i64 b,.int .i64 n,.slice none 0 0,.slice none 0 0] 31)).alloc (.cells #[.slice (some ⟨w.heap.size+1+1+1+1,0,none⟩) 1 1,.int .u8 3,.int .i64 1,.int .i64 0,.int .i64 0] 38)).alloc (.cells #[.int .u8 1,.int .i64 0,.int .i64 0,.slice none 0 0,.int .u8 3,.int .i64 0,.int .i64 0,.slice none 0 0] 43)).alloc (.cells #[.slice (some ⟨w.heap.size+1+1,0,none⟩) 1 1,.int .u8 1,.int .i64 0,.int .i64 1,.int .i64 0,.slice (some ⟨w.heap.size+1+1+1+1,0,none⟩) 1 1,.int .u8 3,.int .i64 1,.int .i64 0,.int .i64 0] 38)).alloc (.cells #[.int .i64 1,.slice (some ⟨w.heap.size+1+1+1+1+1+1+1,0,none⟩) 2 2] 41))
theorem chap_h2 (op t a b n:Int) (w:World):(chapW op t a b n w).heap[w.heap.size+1+1]?=some (.cells #[.int .u8 1,.int .i64 0,.int .i64 0,.int .i64 0,.int .i64 5,.slice none 0 0,.slice none 0 0] 31 (0,0)):=alloc_old (alloc_old (alloc_old (alloc_old (alloc_old (alloc_old (alloc_newn _ _ _ (by simp only [World.size_alloc])) _) _) _) _) _) _
theorem chap_h4 (op t a b n:Int) (w:World):(chapW op t a b n w).heap[w.heap.size+1+1+1+1]?=some (.cells #[.int .u8 op,.int .i64 t,.int .i64 a,.int .i64 b,.int .i64 n,.slice none 0 0,.slice none 0 0] 31 (0,0)):=alloc_old (alloc_old (alloc_old (alloc_old (alloc_newn _ _ _ (by simp only [World.size_alloc])) _) _) _) _
theorem chap_h6 (op t a b n:Int) (w:World):(chapW op t a b n w).heap[w.heap.size+1+1+1+1+1+1]?=some (.cells #[.int .u8 1,.int .i64 0,.int .i64 0,.slice none 0 0,.int .u8 3,.int .i64 0,.int .i64 0,.slice none 0 0] 43 (0,0)):=alloc_old (alloc_old (alloc_newn _ _ _ (by simp only [World.size_alloc])) _) _
theorem chap_h7 (op t a b n:Int) (w:World):(chapW op t a b n w).heap[w.heap.size+1+1+1+1+1+1+1]?=some (.cells #[.slice (some ⟨w.heap.size+1+1,0,none⟩) 1 1,.int .u8 1,.int .i64 0,.int .i64 1,.int .i64 0,.slice (some ⟨w.heap.size+1+1+1+1,0,none⟩) 1 1,.int .u8 3,.int .i64 1,.int .i64 0,.int .i64 0] 38 (0,0)):=alloc_old (alloc_newn _ _ _ (by simp only [World.size_alloc])) _
theorem chap_h8 (op t a b n:Int) (w:World):(chapW op t a b n w).heap[w.heap.size+1+1+1+1+1+1+1+1]?=some (.cells #[.int .i64 1,.slice (some ⟨w.heap.size+1+1+1+1+1+1+1,0,none⟩) 2 2] 41 (0,0)):=alloc_newn _ _ _ (by simp only [World.size_alloc])
theorem chap_below (op t a b n:Int) (w:World):Below w.heap.size w (chapW op t a b n w):=by
 unfold chapW
 repeat' (first | exact alloc_below _ _ | refine Below.alloc ?_ (by simp only [World.size_alloc];omega) _)
theorem chap_at {op t a b n:Int} {W:World} {b2 b4 b6 b7 b8:Nat} (k2:W.heap[b2]?=some (.cells #[.int .u8 1,.int .i64 0,.int .i64 0,.int .i64 0,.int .i64 5,.slice none 0 0,.slice none 0 0] 31 (0,0))) (k4:W.heap[b4]?=some (.cells #[.int .u8 op,.int .i64 t,.int .i64 a,.int .i64 b,.int .i64 n,.slice none 0 0,.slice none 0 0] 31 (0,0))) (k6:W.heap[b6]?=some (.cells #[.int .u8 1,.int .i64 0,.int .i64 0,.slice none 0 0,.int .u8 3,.int .i64 0,.int .i64 0,.slice none 0 0] 43 (0,0))) (k7:W.heap[b7]?=some (.cells #[.slice (some ⟨b2,0,none⟩) 1 1,.int .u8 1,.int .i64 0,.int .i64 1,.int .i64 0,.slice (some ⟨b4,0,none⟩) 1 1,.int .u8 3,.int .i64 1,.int .i64 0,.int .i64 0] 38 (0,0))) (k8:W.heap[b8]?=some (.cells #[.int .i64 1,.slice (some ⟨b7,0,none⟩) 2 2] 41 (0,0))):PrAt W (.agg #[.slice (some ⟨b6,0,none⟩) 2 2,.slice (some ⟨b8,0,none⟩) 1 1]) (chapP op t a b n):=by
 have i0:InsAt W (.slice (some ⟨b2,0,none⟩) 1 1) [⟨1,0,0,0,5,[],[]⟩]:=row_block (lt_of k2) rfl (by simp) fun i h=>by
  obtain rfl:i=0:=by have:i < 1:=h;omega
  exact ⟨_,_,cells_of k2 0 _ rfl,cells_of k2 1 _ rfl,cells_of k2 2 _ rfl,cells_of k2 3 _ rfl,cells_of k2 4 _ rfl,cells_of k2 5 _ rfl,cells_of k2 6 _ rfl,ints_none W,ints_none W⟩
 have i1:InsAt W (.slice (some ⟨b4,0,none⟩) 1 1) [⟨op,t,a,b,n,[],[]⟩]:=row_block (lt_of k4) rfl (by simp) fun i h=>by
  obtain rfl:i=0:=by have:i < 1:=h;omega
  exact ⟨_,_,cells_of k4 0 _ rfl,cells_of k4 1 _ rfl,cells_of k4 2 _ rfl,cells_of k4 3 _ rfl,cells_of k4 4 _ rfl,cells_of k4 5 _ rfl,cells_of k4 6 _ rfl,ints_none W,ints_none W⟩
 have i2:BlksAt W (.slice (some ⟨b7,0,none⟩) 2 2) _:=row_block (l:=[⟨[⟨1,0,0,0,5,[],[]⟩],⟨1,0,1,0⟩⟩,⟨[⟨op,t,a,b,n,[],[]⟩],⟨3,1,0,0⟩⟩]) (lt_of k7) rfl (by simp) fun i h=>by
  have hi:i=0∨i=1:=by have:i < 2:=h;omega
  rcases hi with rfl | rfl
  ·exact ⟨_,cells_of k7 0 _ rfl,cells_of k7 1 _ rfl,cells_of k7 2 _ rfl,cells_of k7 3 _ rfl,cells_of k7 4 _ rfl,i0⟩
  ·exact ⟨_,cells_of k7 5 _ rfl,cells_of k7 6 _ rfl,cells_of k7 7 _ rfl,cells_of k7 8 _ rfl,cells_of k7 9 _ rfl,i1⟩
 refine ⟨_,_,rfl,?_,?_⟩
 ·refine tys_blk (l:=(chapP op t a b n).types) (lt_of k6) rfl (by simp [chapP]) fun i h=>?_
  have hi:i=0∨i=1:=by have:i < 2:=h;omega
  rcases hi with rfl | rfl
  ·exact ⟨_,cells_of k6 0 _ rfl,cells_of k6 1 _ rfl,cells_of k6 2 _ rfl,cells_of k6 3 _ rfl,ints_none W⟩
  ·exact ⟨_,cells_of k6 4 _ rfl,cells_of k6 5 _ rfl,cells_of k6 6 _ rfl,cells_of k6 7 _ rfl,ints_none W⟩
 ·refine row_block (l:=(chapP op t a b n).funcs) (lt_of k8) rfl (by simp [chapP]) fun i h=>?_
  obtain rfl:i=0:=by have:i < 1:=h;omega
  exact ⟨_,cells_of k8 0 _ rfl,cells_of k8 1 _ rfl,i2⟩
theorem chap_prog (op t a b n:Int) (w W:World) (hW:Below (chapW op t a b n w).heap.size (chapW op t a b n w) W):PrAt W (.agg #[.slice (some ⟨w.heap.size+1+1+1+1+1+1,0,none⟩) 2 2,.slice (some ⟨w.heap.size+1+1+1+1+1+1+1+1,0,none⟩) 1 1]) (chapP op t a b n) :=
 chap_at (keepBlk hW (chap_h2 op t a b n w)) (keepBlk hW (chap_h4 op t a b n w)) (keepBlk hW (chap_h6 op t a b n w)) (keepBlk hW (chap_h7 op t a b n w)) (keepBlk hW (chap_h8 op t a b n w))
theorem chap_size (op t a b n:Int) (w:World):(chapW op t a b n w).heap.size=w.heap.size+1+1+1+1+1+1+1+1+1:=by
 unfold chapW
 simp only [World.size_alloc]
theorem chap_world (op t a b n:Int) (w:World):Calls Tryz.prog 9 #[.agg #[.int .u8 op,.int .i64 t,.int .i64 a,.int .i64 b,.int .i64 n,.slice none 0 0,.slice none 0 0]] w fun e w'=>e=.returned (.agg #[.slice (some ⟨w.heap.size+1+1+1+1+1+1,0,none⟩) 2 2,.slice (some ⟨w.heap.size+1+1+1+1+1+1+1+1,0,none⟩) 1 1])∧w'=chapW op t a b n w:=by
 go_enter Tryz.func9,Tryz.ntmps9
 go_wp2
 go_returns
 exact ⟨rfl,rfl⟩
theorem chap_calls (op t a b n:Int) (w:World):Calls Tryz.prog 9 #[.agg #[.int .u8 op,.int .i64 t,.int .i64 a,.int .i64 b,.int .i64 n,.slice none 0 0,.slice none 0 0]] w (ProgR (chapP op t a b n) w) :=
 (chap_world op t a b n w).mono fun e w' ⟨h1,h2⟩=>⟨_,h1,by rw [h2];exact chap_prog op t a b n w _ (Below.refl _ _),by rw [h2];exact chap_below op t a b n w⟩
end Go.Proofs.YtpejpnffcepdlaaGreatDoor.SyP
namespace Go.Proofs.YtpejpnffcepdlaaGreatDoor.SyA
open Go.RowKit Go.Lib SetP IntO TyM TyP TyB ShM ShP ShA ShB ShI PgB Aft FwQ FwR FwK FdQ SvQ SvK SyP

theorem one_small:Small (chapP 4 0 0 0 0):=⟨by decide,by decide,by decide,by decide,by decide,by decide⟩
theorem one_ok:POk (chapP 4 0 0 0 0):=by unfold POk;decide
theorem two_small:Small (chapP 4 0 1 1 0):=⟨by decide,by decide,by decide,by decide,by decide,by decide⟩
theorem two_ok:POk (chapP 4 0 1 1 0):=by unfold POk;decide
theorem f1:sndE (chapP 4 0 0 0 0)=0:=by decide +kernel
theorem f2:sndE (chapP 4 0 1 1 0)=120:=by decide +kernel

theorem alive_of (CC:CheckC) (W:World) (ht:Tab W):Calls Tryz.prog 11 #[] W (BoolR true W):=by
 have H1:=hid (fun v wx (h:Aft W wx) (hp:PrAt wx v (chapP 4 0 0 0 0))=>CC _ v wx hp (ht.on h.below) one_small one_ok)
 have H2:=hid (fun v wx (h:Aft W wx) (hp:PrAt wx v (chapP 4 0 1 1 0))=>CC _ v wx hp (ht.on h.below) two_small two_ok)
 have P1:=hid (fun wx=>chap_calls 4 0 0 0 0 wx)
 have P2:=hid (fun wx=>chap_calls 4 0 1 1 0 wx)
 rw [f1] at H1
 rw [f2] at H2
 have h0:=Aft.refl W
 clear ht
 generalize chapP 4 0 0 0 0=p1 at *
 generalize chapP 4 0 1 1 0=p2 at *
 go_enter Tryz.func11,Tryz.ntmps11
 go_wp2_with fail
 refine (P1.out _).mono ?_
 rintro e w1 ⟨v1,rfl,hp1,hb1⟩
 have h1:=h0.go hb1
 have C1:=hid (H1.out _ _ h1 hp1)
 obtain ⟨_,_,rfl,_⟩:=hp1
 clear hb1 h0 P1 H1
 go_wp2_with fail
 refine C1.out.mono ?_
 rintro e w2 ⟨rfl,hb2⟩
 have h2:=h1.go hb2
 clear hb2 h1 C1
 go_wp2_with fail
 refine (P2.out _).mono ?_
 rintro e w3 ⟨v2,rfl,hp2,hb3⟩
 have h3:=h2.go hb3
 have C2:=hid (H2.out _ _ h3 hp2)
 obtain ⟨_,_,rfl,_⟩:=hp2
 clear hb3 h2 P2 H2
 go_wp2_with fail
 refine C2.out.mono ?_
 rintro e w4 ⟨rfl,hb4⟩
 have HE:=hid (h3.go hb4).below
 clear hb4 h3 C2
 go_wp2
 go_ret
 exact ⟨rfl,HE.out⟩
end Go.Proofs.YtpejpnffcepdlaaGreatDoor.SyA
namespace Go.Proofs.YtpejpnffcepdlaaGreatDoor.SzM
open TyM ShM ShP ShE ShH ShI ShN ShJ ShK ShL ShBP FwM FwC FwP FwQ FdM FdQ FeP FxL LvM LvQ LuM SoM SvQ SvP

def tyIx (x:Ix):Int:=if answersB x.op=true then x.typ else -1
def tyBx (b:Bx):List Int:=b.ins.map tyIx
def regL (t:List Ty) (x:Fx):List Int:=(tyN t x.sig).parts++x.blocks.flatMap tyBx
theorem flat_len:∀ l:List Bx,(l.flatMap tyBx).length=manyB l
 | []=>rfl
 | b :: l=>by rw [List.flatMap_cons,List.length_append,flat_len l,manyB_cons];unfold tyBx;rw [List.length_map]
theorem flat_at:∀ (l:List Bx) (j i:Nat) (h:j < l.length) (hi:i < l[j].ins.length),(l.flatMap tyBx)[manyB (l.take j)+i]?=some (tyIx (l[j].ins[i]))
 | [],j,i,h,hi=>absurd h (by simp)
 | b :: l,0,i,h,hi=>by
  have hi2:i < b.ins.length:=hi
  rw [List.flatMap_cons,List.take_zero,manyB_nil,Nat.zero_add,List.getElem?_append_left (by unfold tyBx;rw [List.length_map];exact hi2)]
  unfold tyBx
  rw [List.getElem?_map,List.getElem?_eq_getElem hi2]
  rfl
 | b :: l,j+1,i,h,hi=>by
  have h2:j < l.length:=by simpa using h
  have ih:=flat_at l j i h2 hi
  have hb:(tyBx b).length=b.ins.length:=by unfold tyBx;rw [List.length_map]
  rw [List.flatMap_cons,List.take_succ_cons,manyB_cons,List.getElem?_append_right (by omega),hb,show b.ins.length+manyB (l.take j)+i - b.ins.length=manyB (l.take j)+i by omega,ih]
  rfl
theorem regL_len (t:List Ty) (x:Fx):(regL t x).length=parOf t x.sig+manyB x.blocks:=by
 unfold regL
 rw [List.length_append,flat_len]
 rfl
theorem regL_at {t:List Ty} {x:Fx} {r:Nat} (hr:r < parOf t x.sig+manyB x.blocks):(regL t x)[r]?=some (typeI t x r):=by
 have hp:(tyN t x.sig).parts.length=parOf t x.sig:=rfl
 by_cases h:r < parOf t x.sig
 ·unfold regL typeI
  rw [List.getElem?_append_left (by omega),if_pos (by omega),Int.toNat_natCast,List.getElem?_eq_getElem (by omega)]
  rfl
 ·rcases set_loc hr with h2 | ⟨c,q,hc,hq,he,hl⟩
  ·exact absurd h2 h
  have hi:insAt x.blocks c=x.blocks[c].ins:=by unfold insAt;rw [List.getElem?_eq_getElem hc];rfl
  have hq2:q < x.blocks[c].ins.length:=by rw [← hi];exact hq
  unfold typeI
  rw [if_neg (by omega),hl]
  unfold regL
  rw [List.getElem?_append_right (by omega),hp,show r - parOf t x.sig=manyB (x.blocks.take c)+q by omega,flat_at x.blocks c q hc hq2]
  have e:insOf x.blocks c q=x.blocks[c].ins[q]:=by unfold insOf;rw [hi,List.getElem?_eq_getElem hq2];rfl
  show some (tyIx _)=some (if answersB (insOf x.blocks c q).op=true then (insOf x.blocks c q).typ else -1)
  rw [e]
  rfl
theorem sig_ok {p:Px} (hc:chkP p=0) {f:Fx} (hf:f∈p.funcs):isK p.types f.sig 3=true:=by
 obtain ⟨hct,_,_,hmf⟩:=chk_zero hc
 have hm:=may_zero (hmf f hf)
 unfold isK
 simp only [Bool.and_eq_true,decide_eq_true_eq]
 exact ⟨hm.1.1,hm.2.1⟩
theorem ins_field {p:Px} {f:Fx} (h:chkP p=0) (ho:POk p) (hf:f∈p.funcs) {b:Bx} (hb:b∈f.blocks) {x:Ix} (hx:x∈b.ins) (he:x.op=14):0≤x.n∧x.n < 8:=by
 have hm:=(chk_zero h).2.2.2 f hf
 unfold mayF at hm
 split at hm
 ·cases hm
 split at hm
 ·cases hm
 split at hm
 ·cases hm
 have hbb:=List.all_eq_true.1 hm b hb
 unfold mayBl at hbb
 simp only [Bool.and_eq_true] at hbb
 have h2:=List.all_eq_true.1 hbb.2 x hx
 rw [mayI_eq ((ho f hf b hb).2 x hx).1] at h2
 unfold mayIR at h2
 split at h2
 ·cases h2
 rename_i h1
 have hn:mayNR p.funcs.length x=true:=by
  cases e:mayNR p.funcs.length x with
  | true=>rfl
  | false=>exact absurd (.inr (.inr (.inr e))) h1
 unfold mayNR at hn
 rw [if_neg (by omega),if_neg (by omega),if_pos he] at hn
 exact of_decide_eq_true hn
theorem type_neg {p:Px} {f:Fx} (hc:chkP p=0) (ho:POk p) (hf:f∈p.funcs) {r:Nat} (hr:r < parOf p.types f.sig+manyB f.blocks):typeI p.types f r = -1∨(0≤typeI p.types f r∧typeI p.types f r < p.types.length):=by
 have hsig:isK p.types f.sig 3=true:=by
  obtain ⟨hct,_,_,hmf⟩:=chk_zero hc
  have hm:=may_zero (hmf f hf)
  unfold isK
  simp only [Bool.and_eq_true,decide_eq_true_eq]
  exact ⟨hm.1.1,hm.2.1⟩
 by_cases h:r < parOf p.types f.sig
 ·have hpl:=(fn_plain (chk_zero hc).1 hsig).2
  have hp:(tyN p.types f.sig).parts.length=parOf p.types f.sig:=rfl
  unfold typeI
  rw [if_pos (by omega),Int.toNat_natCast,List.getElem?_eq_getElem (by omega)]
  obtain ⟨h0,y,hy,_⟩:=plainB_iff.1 (hpl _ (List.getElem_mem (show r < (tyN p.types f.sig).parts.length by omega)))
  have:=(List.getElem?_eq_some_iff.1 hy).1
  refine .inr ⟨h0,?_⟩
  show (tyN p.types f.sig).parts[r] < _
  omega
 ·rcases set_loc hr with h2 | ⟨c,q,hcl,hq,he,hl⟩
  ·exact absurd h2 h
  unfold typeI
  rw [if_neg (by omega),hl]
  show (if answersB (insOf f.blocks c q).op=true then (insOf f.blocks c q).typ else -1) = -1∨_
  have hx:(insAt f.blocks c)[q]?=some (insOf f.blocks c q):=by unfold insOf;rw [List.getElem?_eq_getElem hq];rfl
  obtain ⟨b,hb,hxm⟩:=insAt_mem hx hcl
  have hk:=ins_ok hc ho hf hb hxm
  by_cases ha:answersB (insOf f.blocks c q).op=true
  ·rw [if_pos ha]
   exact .inr (hk.typ ha)
  ·rw [if_neg ha]
   exact .inl rfl

/-! what is set, from ruler to ruler -/
def firstB' (par:Nat) (l:List Bx) (k:Nat):Nat:=par+manyB (l.take k)
def firstL (par:Nat) (l:List Bx) (n:Nat):List Int:=(List.range n).map fun k=>((firstB' par l k:Nat):Int)
theorem firstL_len (par:Nat) (l:List Bx) (n:Nat):(firstL par l n).length=n:=by unfold firstL;rw [List.length_map,List.length_range]
theorem firstL_at {par:Nat} {l:List Bx} {n k:Nat} (h:k < n):(firstL par l n)[k]?=some ((firstB' par l k:Nat):Int):=by
 unfold firstL
 rw [List.getElem?_map,List.getElem?_range h]
 rfl
theorem firstL_next (par:Nat) (l:List Bx) (n:Nat):firstL par l (n+1)=firstL par l n++[((firstB' par l n:Nat):Int)]:=by
 unfold firstL
 rw [List.range_succ,List.map_append]
 rfl
theorem first_next {par:Nat} {l:List Bx} {k:Nat} (h:k < l.length):firstB' par l (k+1)=firstB' par l k+(insAt l k).length:=by
 unfold firstB' insAt
 rw [manyB_take h,List.getElem?_eq_getElem h]
 show par+(manyB (l.take k)+l[k].ins.length)=par+manyB (l.take k)+l[k].ins.length
 omega
theorem first_zero (par:Nat) (l:List Bx):firstB' par l 0=par:=by unfold firstB';rw [List.take_zero,manyB_nil,Nat.add_zero]
theorem first_mono {par:Nat} {l:List Bx} {j k:Nat} (h:j≤k):firstB' par l j≤firstB' par l k:=by
 unfold firstB'
 have e:l.take j=(l.take k).take j:=by rw [List.take_take,Nat.min_eq_left h]
 rw [e]
 have:=manyB_le (l.take k) j
 omega
theorem first_le {par:Nat} {l:List Bx} {k:Nat} : firstB' par l k≤par+manyB l:=by
 unfold firstB'
 have:=manyB_le l k
 omega
def blkOf (par:Nat) (l:List Bx) (r:Nat):Nat:=(locate l ((r:Int) - par).toNat).1
theorem blk_in {par:Nat} {l:List Bx} {r:Nat} (hr:r < par+manyB l) (hp:¬ r < par):blkOf par l r < l.length∧firstB' par l (blkOf par l r)≤r∧r < firstB' par l (blkOf par l r+1):=by
 rcases set_loc hr with h2 | ⟨c,q,hc,hq,he,hl⟩
 ·exact absurd h2 hp
 have e:blkOf par l r=c:=by unfold blkOf;rw [hl]
 rw [e,first_next hc]
 refine ⟨hc,?_,?_⟩
 ·unfold firstB';omega
 ·unfold firstB';omega
theorem blk_of {par:Nat} {l:List Bx} {r k:Nat} (hr:r < par+manyB l) (h1:firstB' par l k≤r) (h2:r < firstB' par l (k+1)):blkOf par l r=k:=by
 have hp:¬ r < par:=by unfold firstB' at h1;omega
 obtain ⟨b1,b2,b3⟩:=blk_in hr hp
 refine Classical.byContradiction fun hne=>?_
 rcases Nat.lt_or_gt_of_ne hne with h | h
 ·have:=first_mono (par:=par) (l:=l) (show blkOf par l r+1≤k by omega)
  omega
 ·have:=first_mono (par:=par) (l:=l) (show k+1≤blkOf par l r by omega)
  omega
def upB (par:Nat) (l:List Bx) (r:Nat) (k:Int):Bool:=decide (0≤k) && ruledL l (blkOf par l r) k.toNat
theorem up_none {par:Nat} {l:List Bx} {r:Nat} {k:Int} (h:k < 0):upB par l r k=false:=by unfold upB;rw [decide_eq_false (by omega)];rfl
theorem up_nat (par:Nat) (l:List Bx) (r k:Nat):upB par l r (k:Int)=ruledL l (blkOf par l r) k:=by unfold upB;rw [decide_eq_true (by omega),Bool.true_and,Int.toNat_natCast]
section
variable {par:Nat} {l:List Bx} (hl:Low l) (h0:0 < l.length) (hall:∀ b,b < l.length→FwM.Comes (succ l) 0 b)
include hl h0 hall
theorem up_in {r k:Nat} (hr:r < par+manyB l) (hk:k < l.length) (h1:firstB' par l k≤r) (h2:r < firstB' par l (k+1)):upB par l r (k:Int)=true:=by
 rw [up_nat,blk_of hr h1 h2]
 exact (ruled_iff hl h0 (hall k hk)).2 (rules_self (hall k hk))
theorem up_step {c k:Nat} (hk:k < l.length) (hne:c≠k):ruledL l c k=(decide (0≤rulerL l k) && ruledL l c (rulerL l k).toNat):=by
 by_cases hz:k=0
 ·subst hz
  rw [ruler_zero hl h0]
  cases e:ruledL l c 0 with
  | false=>rfl
  | true=>exact absurd (rules_first ((ruled_iff hl h0 .here).1 e)) hne
 ·obtain ⟨a,ha,hn⟩:=ruler_some hl h0 (hall k hk) hz
  rw [ha,decide_eq_true (by omega),Bool.true_and,Int.toNat_natCast]
  have h1:=ruled_iff hl h0 (a:=c) (hall k hk)
  have h2:=ruled_iff hl h0 (a:=c) hn.2.1.reach
  have h3:=rules_next (x:=c) hn
  rw [Bool.eq_iff_iff,h1,h2,h3]
  exact ⟨fun h=>h.resolve_left hne,.inr⟩
theorem up_next {r k:Nat} (hr:r < par+manyB l) (hp:¬ r < par) (hk:k < l.length) (hno:¬ (firstB' par l k≤r∧r < firstB' par l (k+1))):upB par l r (k:Int)=upB par l r (rulerL l k):=by
 obtain ⟨b1,b2,b3⟩:=blk_in hr hp
 rw [up_nat]
 exact up_step hl h0 hall hk fun e=>hno (by rw [← e];exact ⟨b2,b3⟩)
theorem ruler_lt {k:Nat} (hk:k < l.length):rulerL l k = -1∨∃ a:Nat,rulerL l k=a∧a < l.length∧rulersN l a < rulersN l k:=by
 by_cases hz:k=0
 ·subst hz;exact .inl (ruler_zero hl h0)
 ·obtain ⟨a,ha,hn⟩:=ruler_some hl h0 (hall k hk) hz
  exact .inr ⟨a,ha,rules_lt (succ_lt hl) h0 hn.2.1,rulers_less hl h0 hn⟩
theorem set_up {r b pl:Nat} (hr:r < par+manyB l) (hp:¬ r < par) (hb:b < l.length) (hpl:pl≤(insAt l b).length) (hno:¬ (firstB' par l b≤r∧r < firstB' par l b+pl)):isSetL par l r b pl=upB par l r (rulerL l b):=by
 rcases set_loc hr with h2 | ⟨c,q,hc,hq,he,hloc⟩
 ·exact absurd h2 hp
 have e:blkOf par l r=c:=by unfold blkOf;rw [hloc]
 rw [set_at hp hloc]
 by_cases hcb:c=b
 ·rw [if_pos hcb]
  subst hcb
  have hq2:¬ q < pl:=by
   intro h
   refine hno ⟨?_,?_⟩
   ·unfold firstB';omega
   ·unfold firstB';omega
  rw [decide_eq_false hq2]
  unfold upB
  rw [e]
  rcases ruler_lt hl h0 hall hc with h | ⟨a,ha,hal,_⟩
  ·rw [h];rfl
  ·rw [ha,decide_eq_true (by omega),Bool.true_and,Int.toNat_natCast]
   cases hra:ruledL l c a with
   | false=>rfl
   | true =>
    have hz:c≠0:=by rintro rfl;rw [ruler_zero hl h0] at ha;omega
    obtain ⟨a',ha',hn⟩:=ruler_some hl h0 (hall c hc) hz
    obtain rfl:a'=a:=by omega
    exact absurd (((ruled_iff hl h0 (hall a' hal)).1 hra).anti hn.2.1).symm hn.1
 ·rw [if_neg hcb]
  have:=up_step hl h0 hall hb hcb
  rw [this]
  unfold upB
  rw [e]
end
theorem set_own {par:Nat} {l:List Bx} {r b pl:Nat} (hr:r < par+manyB l) (hb:b < l.length) (hpl:pl≤(insAt l b).length) (h1:firstB' par l b≤r) (h2:r < firstB' par l b+pl):isSetL par l r b pl=true:=by
 have hp:¬ r < par:=by unfold firstB' at h1;omega
 rcases set_loc hr with h3 | ⟨c,q,hc,hq,he,hloc⟩
 ·exact absurd h3 hp
 have e:blkOf par l r=c:=by unfold blkOf;rw [hloc]
 have e2:=blk_of hr h1 (show r < firstB' par l (b+1) by rw [first_next hb];omega)
 have hcb:c=b:=by omega
 rw [set_at hp hloc,if_pos hcb]
 subst hcb
 refine decide_eq_true ?_
 unfold firstB' at h2
 omega
end Go.Proofs.YtpejpnffcepdlaaGreatDoor.SzM
