/- What layer 12 answers of a program, in plain: registers' types, and which programs are well formed. What is asked of the package sound: its functions' contracts, as propositions. Plain facts on programs that are well formed. One of the types in memory, in every world behind; of what kind types are. Walks over fescueref12.is, To, part, scalar, called. Walks over fescueref03.PartOf, fescueref12.memory. Walks over fescueref12.Type, types, allSet. A walk over fescueref12.phi. A walk over fescueref12.types. -/
import Derived.Test.YtpejpnffcepdlaaGreatDoorYFvEToFdK
import Derived.Test.YtpejpnffcepdlaaGreatDoorYTyMToShN
import Derived.Test.YtpejpnffcepdlaaGreatDoorYShIToFvEU
import Derived.Test.YtpejpnffcepdlaaGreatDoorYFePToSoM
import Derived.Test.YtpejpnffcepdlaaGreatDoorYIntOToSwXd
import Derived.Test.YtpejpnffcepdlaaGreatDoorYTyBToTyTI
import Derived.Test.YtpejpnffcepdlaaGreatDoorYRgZToRgY
import Derived.Deep.RegionHeld3
import Derived.Test.YtpejpnffcepdlaaGreatDoorYShBToShW
import Derived.Test.YtpejpnffcepdlaaGreatDoorYAllGToSwUt
import Derived.Test.YtpejpnffcepdlaaGreatDoorYFwRToTyRT
set_option maxRecDepth 100000
set_option maxHeartbeats 16000000
namespace Go.Proofs.YtpejpnffcepdlaaGreatDoor.SvQ
open TyM ShM ShP ShE ShH ShI ShN ShJ ShK FwM FwC FwP FwQ LvM FdQ

def tyN (t:List Ty) (k:Int):Ty:=(t[k.toNat]?).getD default
def isK (t:List Ty) (k kind:Int):Bool:=decide (0≤k) && decide ((tyN t k).kind=kind)
def insOf (l:List Bx) (b i:Nat):Ix:=(insAt l b)[i]?.getD default
def typeI (t:List Ty) (x:Fx) (r:Int):Int :=
 if r < parOf t x.sig then ((tyN t x.sig).parts[r.toNat]?).getD 0
 else if answersB (insOf x.blocks (locate x.blocks (r - parOf t x.sig).toNat).1 (locate x.blocks (r - parOf t x.sig).toNat).2).op=true then (insOf x.blocks (locate x.blocks (r - parOf t x.sig).toNat).1 (locate x.blocks (r - parOf t x.sig).toNat).2).typ else -1
def toK (t:List Ty) (k:Int):Int:=if isK t k 2=true then (tyN t k).elem else -1
def partK (t:List Ty) (k m:Int):Bool:=decide (0≤m) && decide (toK t k=m)
def scalK (t:List Ty) (k:Int):Bool:=decide (0≤k) && plainB t k
def callK (t:List Ty) (sig:Int) (l:List Int) (k:Int):Bool:=isK t sig 3 && (decide ((tyN t sig).parts=l) && decide ((tyN t sig).elem=k))
def partZ (x:Ty) (n:Int):Int:=if x.kind=4∧0≤n∧n < x.parts.length then (x.parts[n.toNat]?).getD 0 else if x.kind=5∧0≤n∧n < x.many then x.elem else -1
def memB (t:List Ty) (x:Ix) (l:List Int):Bool :=
 if x.op=14 then isK t (toK t (l.getD 0 0)) 4 && partK t x.typ (partZ (tyN t (toK t (l.getD 0 0))) x.n)
 else if x.op=15 then isK t (toK t (l.getD 0 0)) 5 && (isK t (l.getD 1 0) 1 && partK t x.typ (tyN t (toK t (l.getD 0 0))).elem)
 else if x.op=16 then scalK t (toK t (l.getD 0 0)) && decide (x.typ=toK t (l.getD 0 0))
 else scalK t (toK t (l.getD 0 0)) && decide (l.getD 1 0=toK t (l.getD 0 0))
def sigAt (p:Px) (n:Int):Int:=((p.funcs[n.toNat]?).getD default).sig
def typedB (p:Px) (x:Ix) (l:List Int):Bool :=
 if x.op=1∨x.op=20 then isK p.types x.typ 1
 else if x.op=2 then isK p.types x.typ 2 || isK p.types x.typ 3
 else if x.op=3 then decide (x.typ=sigAt p x.n)
 else if 4≤x.op∧x.op≤9 then isK p.types (l.getD 0 0) 1 && (isK p.types (l.getD 1 0) 1 && isK p.types x.typ 1)
 else if x.op=10 then isK p.types (l.getD 0 0) 2 && (decide (l.getD 0 0=l.getD 1 0) && isK p.types x.typ 1)
 else if x.op=11∨x.op=12 then isK p.types x.typ 2
 else if x.op=13 then isK p.types (l.getD 0 0) 2
 else if x.op=21 then isK p.types (l.getD 0 0) 1
 else if 14≤x.op∧x.op≤17 then memB p.types x l
 else if x.op=18 then callK p.types (sigAt p x.n) l x.typ
 else if x.op=19 then callK p.types (l.getD 0 0) (l.drop 1) x.typ
 else l.all (fun n=>decide (n=x.typ)) && scalK p.types x.typ
def typesB (t:List Ty) (x:Fx) (us:List Int):Bool:=us.all fun r=>decide (0≤typeI t x r)
def typesL (t:List Ty) (x:Fx) (us:List Int):List Int:=if typesB t x us=true then us.map (typeI t x) else []
def setsB (par:Nat) (l:List Bx) (us:List Int) (b k:Int):Bool:=us.all fun r=>isSetL par l r b k
def phiB (par:Nat) (l:List Bx) (b k:Nat) (x:Ix):Bool :=
 decide (x.frm=ints (aheadL l b)) && (decide (k=0∨(insOf l b (k - 1)).op=22) && ((x.frm.zip x.args).all fun q=>isSetL par l q.2 q.1 (insAt l q.1.toNat).length))
def rightB (p:Px) (f:Fx) (b k:Nat):Bool :=
 typesB p.types f (usesOf (insOf f.blocks b k)) && (typedB p (insOf f.blocks b k) (typesL p.types f (usesOf (insOf f.blocks b k))) &&
  (if (insOf f.blocks b k).op=22 then phiB (parOf p.types f.sig) f.blocks b k (insOf f.blocks b k) else setsB (parOf p.types f.sig) f.blocks (usesOf (insOf f.blocks b k)) b k))
def endB (p:Px) (f:Fx) (b:Nat):Bool :=
 typesB p.types f (endsOf (endAt f.blocks b)) && (setsB (parOf p.types f.sig) f.blocks (endsOf (endAt f.blocks b)) b (insAt f.blocks b).length && (decide ((0:Int)∉toE (endAt f.blocks b)) &&
  (if (endAt f.blocks b).kind=2 then isK p.types ((typesL p.types f (endsOf (endAt f.blocks b))).getD 0 0) 1
   else if (endAt f.blocks b).kind=3 then decide ((typesL p.types f (endsOf (endAt f.blocks b))).getD 0 0=(tyN p.types f.sig).elem) else true)))
def fnB (p:Px) (f:Fx):Bool :=
 decide ((reachedL f.blocks).length=f.blocks.length) && ((List.range f.blocks.length).all fun b=>((List.range (insAt f.blocks b).length).all fun k=>rightB p f b k) && endB p f b)
def firstB (p:Px):Bool:=decide ((tyN p.types (sigAt p 0)).parts.length=0) && isK p.types (tyN p.types (sigAt p 0)).elem 1
def sndE (p:Px):Int:=if chkP p≠0 then chkP p else if p.funcs.all (fnB p)=true∧firstB p=true then 0 else 120
def kindE (p:Px) (f r:Int):Int:=if sndE p≠0 then sndE p else if placeE p f r≠0 then placeE p f r else if typeI p.types (fnP p f) r < 0 then 6 else 0
def kindN (p:Px) (f r:Int):Int:=if kindE p f r=0 then typeI p.types (fnP p f) r else 0
end Go.Proofs.YtpejpnffcepdlaaGreatDoor.SvQ
namespace Go.Proofs.YtpejpnffcepdlaaGreatDoor.SvK
open Go.RowKit Go.Lib SetP IntO TyM TyP TyB ShM ShP ShA ShB ShI ShJ FwP FwQ FwR FwK FdM FdQ SvQ

def CheckC:Prop:=∀ (p:Px) (v:Value) (w:World),PrAt w v p→Tab w→Small p→POk p →
 Calls Tryz.prog 12 #[v] w (NumR (sndE p) w)
def KindC:Prop:=∀ (p:Px) (f r:Int) (v:Value) (w:World),PrAt w v p→Tab w→Small p→POk p→I64 f→I64 r →
 Calls Tryz.prog 10 #[v,.int .i64 f,.int .i64 r] w (TwoR (kindN p f r) (kindE p f r) w)
end Go.Proofs.YtpejpnffcepdlaaGreatDoor.SvK
namespace Go.Proofs.YtpejpnffcepdlaaGreatDoor.SvP
open TyM ShM ShP ShE ShH ShI ShN ShJ ShK ShL ShBP FwM FwC FwP FwQ FdM FdQ FeP FxL LvM LvQ LuM SoM SvQ

/-! what shape's Check gives of an instruction -/
structure InsOk (nt nf nb nr:Nat) (x:Ix):Prop where
 op1:1≤x.op
 op2:x.op≤22
 uses:∀ r∈usesOf x,0≤r∧r < nr
 typ:answersB x.op=true→0≤x.typ∧x.typ < nt
 typ0:answersB x.op=false→x.typ=0
 n:x.op=3∨x.op=18→0≤x.n∧x.n < nf
 phi:x.op=22→x.frm.length=x.args.length∧1≤x.frm.length∧x.frm.length≤16∧∀ b∈x.frm,0≤b∧b < nb
 other:x.op≠22→x.frm=[]∧x.args.length≤4
theorem insOk_of {nt nr nf nb:Nat} {x:Ix} (h:mayIR nt (nr:Int) nf nb x=true):InsOk nt nf nb nr x:=by
 unfold mayIR at h
 split at h
 ·cases h
 rename_i h1
 split at h
 ·cases h
 split at h
 ·cases h
 rename_i h3
 have hl:lowB (nr:Int) (usesOf x)=true:=by
  cases e:lowB (nr:Int) (usesOf x) with
  | true=>rfl
  | false=>exact absurd (.inr (.inr (.inl e))) h1
 have hn:mayNR nf x=true:=by
  cases e:mayNR nf x with
  | true=>rfl
  | false=>exact absurd (.inr (.inr (.inr e))) h1
 have o1:1≤x.op:=by
  refine Classical.byContradiction fun hh=>h1 (.inl (by omega))
 have o2:x.op≤22:=by
  refine Classical.byContradiction fun hh=>h1 (.inr (.inl (by omega)))
 refine ⟨o1,o2,fun r hr=>low_mem hl hr,fun ha=>?_,fun ha=>?_,fun he=>?_,fun he=>?_,fun he=>?_⟩
 ·refine Classical.byContradiction fun hh=>h3 (.inl ⟨ha,by omega⟩)
 ·refine Classical.byContradiction fun hh=>h3 (.inr ⟨ha,hh⟩)
 ·unfold mayNR at hn
  rw [if_neg (by omega),if_pos he] at hn
  exact of_decide_eq_true hn
 ·rw [if_pos he] at h
  simp only [Bool.and_eq_true,decide_eq_true_eq] at h
  exact ⟨h.1.1,h.1.2.1,h.1.2.2,fun b hb=>low_mem h.2 hb⟩
 ·rw [if_neg he] at h
  simp only [decide_eq_true_eq] at h
  exact ⟨List.eq_nil_of_length_eq_zero h.1,h.2⟩
theorem ins_ok {p:Px} {f:Fx} (h:chkP p=0) (ho:POk p) (hf:f∈p.funcs) {b:Bx} (hb:b∈f.blocks) {x:Ix} (hx:x∈b.ins):InsOk p.types.length p.funcs.length f.blocks.length (parOf p.types f.sig+manyB f.blocks) x:=by
 have hm:=(chk_zero h).2.2.2 f hf
 unfold mayF at hm
 split at hm
 ·cases hm
 split at hm
 ·cases hm
 split at hm
 ·cases hm
 have hbb:=List.all_eq_true.1 hm b hb
 unfold mayBl at hbb
 simp only [Bool.and_eq_true] at hbb
 have h2:=List.all_eq_true.1 hbb.2 x hx
 rw [mayI_eq ((ho f hf b hb).2 x hx).1] at h2
 exact insOk_of h2
theorem insOf_at {l:List Bx} {b k:Nat} {x:Ix} (h:(insAt l b)[k]?=some x):insOf l b k=x:=by unfold insOf;rw [h];rfl
theorem insAt_mem {l:List Bx} {b k:Nat} {x:Ix} (h:(insAt l b)[k]?=some x) (hb:b < l.length):∃ c,c∈l∧x∈c.ins:=by
 refine ⟨l[b],List.getElem_mem hb,?_⟩
 unfold insAt at h
 rw [List.getElem?_eq_getElem hb] at h
 exact List.mem_of_getElem? h

theorem snd_zero {p:Px} (h:sndE p=0):chkP p=0∧(∀ f∈p.funcs,fnB p f=true)∧firstB p=true:=by
 unfold sndE at h
 split at h
 ·rename_i hh;exact absurd h hh
 ·rename_i hh
  split at h
  ·rename_i h2;exact ⟨by omega,List.all_eq_true.1 h2.1,h2.2⟩
  ·cases h
theorem filter_all {α:Type} {q:α→Bool} : ∀ {l:List α},(l.filter q).length=l.length→∀ x∈l,q x=true
 | [],_,x,hx=>by cases hx
 | y :: l,h,x,hx=>by
  have h2:=List.length_filter_le q l
  rw [List.filter_cons] at h
  split at h
  ·rename_i hy
   simp only [List.length_cons] at h
   rcases List.mem_cons.1 hx with e | hx
   ·rw [e];exact hy
   ·exact filter_all (by omega) x hx
  ·simp only [List.length_cons] at h
   omega
theorem all_reached {l:List Bx} (h:(reachedL l).length=l.length) {b:Nat} (hb:b < l.length):b∈reachedL l:=by
 unfold reachedL at h ⊢
 rw [List.mem_filter]
 exact ⟨List.mem_range.2 hb,filter_all (by rw [h,List.length_range]) b (List.mem_range.2 hb)⟩
/-! types -/
theorem ty_at {t:List Ty} {k:Nat} {x:Ty} (h:t[k]?=some x):tyN t (k:Int)=x:=by unfold tyN;rw [Int.toNat_natCast,h];rfl
theorem isK_at {t:List Ty} {k kind:Int} (h:isK t k kind=true):0≤k∧(tyN t k).kind=kind:=by
 unfold isK at h
 simp only [Bool.and_eq_true,decide_eq_true_eq] at h
 exact h
theorem isK_low {t:List Ty} {k kind:Int} (h:isK t k kind=true) (hk:kind≠0):k < t.length:=by
 obtain ⟨h0,h1⟩:=isK_at h
 refine Classical.byContradiction fun hh=>hk ?_
 rw [← h1]
 unfold tyN
 rw [List.getElem?_eq_none (by omega)]
 rfl
theorem good_at {t:List Ty} (h:chkT t=0) {k:Int} (h0:0≤k) (h1:k < t.length):mayX t k.toNat (tyN t k)=true:=by
 have hg:=(chkT_zero h).2 k.toNat (by omega)
 obtain ⟨x,hx,hm,_⟩:=goodB_iff.1 hg
 unfold tyN
 rw [hx]
 exact hm
theorem fn_plain {t:List Ty} (h:chkT t=0) {k:Int} (hk:isK t k 3=true):plainB t (tyN t k).elem=true∧∀ n∈(tyN t k).parts,plainB t n=true:=by
 obtain ⟨h0,h1⟩:=isK_at hk
 have hm:=good_at h h0 (isK_low hk (by decide))
 unfold mayX at hm
 rw [if_neg (by omega),if_neg (by omega),if_pos h1] at hm
 simp only [Bool.and_eq_true] at hm
 exact ⟨hm.2.1,List.all_eq_true.1 hm.2.2.1⟩
end Go.Proofs.YtpejpnffcepdlaaGreatDoor.SvP
namespace Go.Proofs.YtpejpnffcepdlaaGreatDoor.SwA
open Go.RowKit Go.Lib SetP IntO TyM TyP TyB ShM Aft FwP FwQ SvQ SvP

theorem ty_later {W:World} {ta:Option Addr} {n c:Nat} {t:List Ty} (h:TysAt W (.slice ta n c) t) (k:Nat) (hk:k < t.length):∃ g off pa pc,ta=some ⟨g,off,none⟩∧(∀ w',Aft W w'→w'.cell? ⟨g,off+k * 4,none⟩=some (.int .u8 (tyN t k).kind))∧(∀ w',Aft W w'→w'.cell? ⟨g,off+k * 4+1,none⟩=some (.int .i64 (tyN t k).elem)) ∧
  (∀ w',Aft W w'→w'.cell? ⟨g,off+k * 4+2,none⟩=some (.int .i64 (tyN t k).many))∧(∀ w',Aft W w'→w'.cell? ⟨g,off+k * 4+3,none⟩=some (.slice pa (tyN t k).parts.length pc))∧(∀ w',Aft W w'→IntsAt w' (.slice pa (tyN t k).parts.length pc) (tyN t k).parts):=by
 obtain ⟨g,off,rfl,hlt,pv,c0,c1,c2,c3,hp⟩:=h.at k hk
 have he:tyN t k=t[k]:=by unfold tyN;rw [Int.toNat_natCast,List.getElem?_eq_getElem hk];rfl
 obtain ⟨pa,pc,rfl,_⟩:=ints_slice hp
 rw [he]
 exact ⟨g,off,pa,pc,rfl,later c0,later c1,later c2,later c3,fun w' h=>hp.below h.below⟩
theorem isK_no {t:List Ty} {k kind:Int} (h:k < 0):isK t k kind=false:=by unfold isK;rw [decide_eq_false (by omega)];rfl
theorem isK_nat (t:List Ty) (k:Nat) (kind:Int):isK t (k:Int) kind=decide ((tyN t k).kind=kind):=by unfold isK;rw [decide_eq_true (by omega)];rfl
end Go.Proofs.YtpejpnffcepdlaaGreatDoor.SwA
namespace Go.Proofs.YtpejpnffcepdlaaGreatDoor.SwA
open Go.RowKit Go.Lib RwO SetP IntO TyM TyP TyB TyC TyRA TyRE ShM ShP ShA ShB ShC ShE ShRA ShH ShI ShJ Aft FwM FwC FwP FwQ FwR FvA FvB FdQ LvM SvQ SvP

theorem is_calls (p:Px) (k kind:Int) (v:Value) (w:World) (hp:PrAt w v p) (hk:k < p.types.length) :
  Calls Tryz.prog 37 #[v,.int .i64 k,.int .u8 kind] w (BoolR (isK p.types k kind) w):=by
 obtain ⟨vt,vf,rfl,ht,hf⟩:=hp
 obtain ⟨W,hW⟩:∃ W,W=w.alloc (.cells #[vt,vf] 27):=⟨_,rfl⟩
 have hbW:Below w.heap.size w W:=by rw [hW];exact alloc_below _ _
 have k1:W.heap[w.heap.size]?=some (.cells #[vt,vf] 27 (0,0)):=by rw [hW];exact alloc_new _ _
 have htW:=ht.below hbW
 obtain ⟨ta,tc,rfl⟩:=ht.slice
 obtain ⟨fa,fc,rfl,_⟩:=hf.slice
 have l0:=later_cells k1 0 _ rfl W (Aft.refl W);have l1:=later_cells k1 1 _ rfl W (Aft.refl W)
 have HBW:=hid hbW
 have HW:=hid hW
 by_cases h0:k < 0
 ·have HK:=hid (isK_no (t:=p.types) (kind:=kind) h0)
  clear ht hf hbW hW k1 htW
  generalize isK p.types k kind=ans at *
  generalize p.types.length=n1 at *
  generalize p.funcs.length=n2 at *
  go_enter Tryz.func37,Tryz.ntmps37
  go_wp2
  all_goals first | (exfalso;omega) | skip
  rw [← HW.out]
  go_ret
  exact ⟨by rw [HK.out];rfl,HBW.out⟩
 ·obtain ⟨n,rfl⟩:∃ n:Nat,k=n:=⟨k.toNat,by omega⟩
  have hn:n < p.types.length:=by omega
  obtain ⟨g,off,pa,pc,rfl,c0,_,_,_,_⟩:=ty_later htW n hn
  have d0:=c0 W (Aft.refl W)
  have HK:=hid (isK_nat p.types n kind)
  have hx:((tyN p.types n).kind == kind)=decide ((tyN p.types n).kind=kind):=by rw [Bool.eq_iff_iff];simp
  have HX:=hid hx
  clear ht hf hbW hW k1 htW c0 hx
  generalize isK p.types n kind=ans at *
  generalize (tyN p.types n).kind=xk at *
  generalize p.types.length=n1 at *
  generalize p.funcs.length=n2 at *
  go_enter Tryz.func37,Tryz.ntmps37
  rw [HW.out] at l0 l1 d0
  go_wp2
  all_goals first | (exfalso;omega) | skip
  go_ret
  exact ⟨by rw [HK.out,← HX.out];rfl,by rw [← HW.out];exact HBW.out⟩
/-! To -/
theorem to_calls (p:Px) (k:Int) (v:Value) (w:World) (hp:PrAt w v p) (hk:k < p.types.length) :
  Calls Tryz.prog 202 #[v,.int .i64 k] w (NumR (toK p.types k) w):=by
 have hp0:=hp
 obtain ⟨vt,vf,rfl,ht,hf⟩:=hp
 obtain ⟨W,hW⟩:∃ W,W=w.alloc (.cells #[vt,vf] 27):=⟨_,rfl⟩
 have hbW:Below w.heap.size w W:=by rw [hW];exact alloc_below _ _
 have k1:W.heap[w.heap.size]?=some (.cells #[vt,vf] 27 (0,0)):=by rw [hW];exact alloc_new _ _
 have HP:=hid (hp0.below hbW)
 have HTY:=hid (ht.below hbW)
 obtain ⟨ta,tc,rfl⟩:=ht.slice
 obtain ⟨fa,fc,rfl,_⟩:=hf.slice
 have l0:=later_cells k1 0 _ rfl;have l1:=later_cells k1 1 _ rfl
 have HBW:=hid hbW
 have HW:=hid hW
 have h0:=Aft.refl W
 clear ht hf hbW hW k1 hp0
 have HC:=hid (is_calls p k 2 _ W HP.out hk)
 have HY:=hid (fun (h:isK p.types k 2=true)=>show toK p.types k=(tyN p.types k).elem by unfold toK;rw [if_pos h])
 have HN:=hid (fun (h:isK p.types k 2=false)=>show toK p.types k = -1 by unfold toK;rw [h];rfl)
 cases hb:isK p.types k 2 with
 | false =>
  have HA:=hid (HN.out hb)
  rw [hb] at HC
  clear HY HN hb HTY
  generalize toK p.types k=ans at *
  generalize p.types.length=n1 at *
  generalize p.funcs.length=n2 at *
  go_enter Tryz.func202,Tryz.ntmps202
  go_wp2_with fail
  rw [← HW.out]
  refine HC.out.mono ?_
  rintro e w1 ⟨rfl,hb1⟩
  have h1:=h0.go hb1
  clear HC hb1
  go_wp2
  go_ret
  exact ⟨by rw [HA.out];rfl,h1.out HBW.out⟩
 | true =>
  have HA:=hid (HY.out hb)
  have hk0:=(isK_at hb).1
  rw [hb] at HC
  obtain ⟨n,rfl⟩:∃ n:Nat,k=n:=⟨k.toNat,by omega⟩
  have hn:n < p.types.length:=by omega
  have hnl:(n:Int) < (p.types.length:Int):=by omega
  obtain ⟨g,off,pa,pc,rfl,_,c1,_,_,_⟩:=ty_later HTY.out n hn
  clear HY HN hb HTY hk
  generalize toK p.types n=ans at *
  generalize (tyN p.types n).elem=te at *
  generalize p.types.length=n1 at *
  generalize p.funcs.length=n2 at *
  go_enter Tryz.func202,Tryz.ntmps202
  go_wp2_with fail
  rw [← HW.out]
  refine HC.out.mono ?_
  rintro e w1 ⟨rfl,hb1⟩
  have h1:=h0.go hb1
  clear HC hb1
  go_wp2
  go_ret
  exact ⟨by rw [HA.out];rfl,h1.out HBW.out⟩

/-! part -/
theorem part_calls (p:Px) (k m:Int) (v:Value) (w:World) (hp:PrAt w v p) (hk:k < p.types.length) :
  Calls Tryz.prog 203 #[v,.int .i64 k,.int .i64 m] w (BoolR (partK p.types k m) w):=by
 have hp0:=hp
 obtain ⟨vt,vf,rfl,ht,hf⟩:=hp
 obtain ⟨W,hW⟩:∃ W,W=w.alloc (.cells #[vt,vf] 27):=⟨_,rfl⟩
 have hbW:Below w.heap.size w W:=by rw [hW];exact alloc_below _ _
 have k1:W.heap[w.heap.size]?=some (.cells #[vt,vf] 27 (0,0)):=by rw [hW];exact alloc_new _ _
 have HP:=hid (hp0.below hbW)
 have HTY:=hid (ht.below hbW)
 obtain ⟨ta,tc,rfl⟩:=ht.slice
 obtain ⟨fa,fc,rfl,_⟩:=hf.slice
 have l0:=later_cells k1 0 _ rfl;have l1:=later_cells k1 1 _ rfl
 have HBW:=hid hbW
 have HW:=hid hW
 have h0:=Aft.refl W
 clear ht hf hbW hW k1 hp0
 have HC:=hid (to_calls p k _ W HP.out hk)
 have HA:Hid (partK p.types k m=(decide (0≤m) && decide (toK p.types k=m))):=rfl
 have HX:Hid ((toK p.types k == m)=decide (toK p.types k=m)):=by show _=_;rw [Bool.eq_iff_iff];simp
 clear HTY hk
 generalize partK p.types k m=ans at *
 generalize toK p.types k=tk at *
 generalize p.types.length=n1 at *
 generalize p.funcs.length=n2 at *
 by_cases hm:0≤m
 ·rw [decide_eq_true hm,Bool.true_and] at HA
  go_enter Tryz.func203,Tryz.ntmps203
  go_wp2_with fail
  rw [← HW.out]
  all_goals (try (exfalso;omega))
  refine HC.out.mono ?_
  rintro e w1 ⟨rfl,hb1⟩
  have h1:=h0.go hb1
  clear HC hb1
  go_wp2
  go_ret
  exact ⟨by rw [HA.out,← HX.out];rfl,h1.out HBW.out⟩
 ·rw [decide_eq_false hm,Bool.false_and] at HA
  clear HC
  go_enter Tryz.func203,Tryz.ntmps203
  go_wp2
  all_goals (try (exfalso;omega))
  rw [← HW.out]
  go_ret
  exact ⟨by rw [HA.out];rfl,HBW.out⟩

/-! scalar -/
theorem scalar_calls (p:Px) (k:Int) (v:Value) (w:World) (hp:PrAt w v p) :
  Calls Tryz.prog 175 #[v,.int .i64 k] w (BoolR (scalK p.types k) w):=by
 have hp0:=hp
 obtain ⟨vt,vf,rfl,ht,hf⟩:=hp
 obtain ⟨W,hW⟩:∃ W,W=w.alloc (.cells #[vt,vf] 27):=⟨_,rfl⟩
 have hbW:Below w.heap.size w W:=by rw [hW];exact alloc_below _ _
 have k1:W.heap[w.heap.size]?=some (.cells #[vt,vf] 27 (0,0)):=by rw [hW];exact alloc_new _ _
 have HP:=hid (hp0.below hbW)
 have HTY:=hid (ht.below hbW)
 obtain ⟨ta,tc,rfl⟩:=ht.slice
 obtain ⟨fa,fc,rfl,_⟩:=hf.slice
 have l0:=later_cells k1 0 _ rfl;have l1:=later_cells k1 1 _ rfl
 have HBW:=hid hbW
 have HW:=hid hW
 have h0:=Aft.refl W
 clear ht hf hbW hW k1 hp0
 have HC:=hid (plain_calls p.types _ k W HTY.out)
 have HA:Hid (scalK p.types k=(decide (0≤k) && plainB p.types k)):=rfl
 clear HTY
 generalize scalK p.types k=ans at *
 generalize plainB p.types k=pk at *
 generalize p.types.length=n1 at *
 generalize p.funcs.length=n2 at *
 by_cases hm:0≤k
 ·rw [decide_eq_true hm,Bool.true_and] at HA
  go_enter Tryz.func175,Tryz.ntmps175
  go_wp2_with fail
  rw [← HW.out]
  all_goals (try (exfalso;omega))
  refine HC.out.mono ?_
  rintro e w1 ⟨rfl,hb1⟩
  have h1:=h0.go hb1
  clear HC hb1
  go_wp2
  go_ret
  exact ⟨by rw [HA.out];rfl,h1.out HBW.out⟩
 ·rw [decide_eq_false hm,Bool.false_and] at HA
  clear HC
  go_enter Tryz.func175,Tryz.ntmps175
  go_wp2
  all_goals (try (exfalso;omega))
  rw [← HW.out]
  go_ret
  exact ⟨by rw [HA.out];rfl,HBW.out⟩

/-! called -/
theorem called_calls (p:Px) (sig:Int) (l:List Int) (k:Int) (v vl:Value) (w:World) (hp:PrAt w v p) (hk:sig < p.types.length) (hl:IntsAt w vl l) :
  Calls Tryz.prog 174 #[v,.int .i64 sig,vl,.int .i64 k] w (BoolR (callK p.types sig l k) w):=by
 have hp0:=hp
 obtain ⟨vt,vf,rfl,ht,hf⟩:=hp
 obtain ⟨W,hW⟩:∃ W,W=w.alloc (.cells #[vt,vf] 27):=⟨_,rfl⟩
 have hbW:Below w.heap.size w W:=by rw [hW];exact alloc_below _ _
 have k1:W.heap[w.heap.size]?=some (.cells #[vt,vf] 27 (0,0)):=by rw [hW];exact alloc_new _ _
 have HP:=hid (hp0.below hbW)
 have HTY:=hid (ht.below hbW)
 obtain ⟨ta,tc,rfl⟩:=ht.slice
 obtain ⟨fa,fc,rfl,_⟩:=hf.slice
 have l0:=later_cells k1 0 _ rfl;have l1:=later_cells k1 1 _ rfl
 have HBW:=hid hbW
 have HW:=hid hW
 have h0:=Aft.refl W
 clear ht hf hbW hW k1 hp0
 have HC:=hid (is_calls p sig 3 _ W HP.out hk)
 have HL:=hid (hl.below HBW.out)
 obtain ⟨la,lc,rfl,_⟩:=ints_slice hl
 have HA:Hid (callK p.types sig l k=(isK p.types sig 3 && (decide ((tyN p.types sig).parts=l) && decide ((tyN p.types sig).elem=k)))):=rfl
 cases hb:isK p.types sig 3 with
 | false =>
  rw [hb] at HC HA
  clear hb HTY HL hl hk
  generalize callK p.types sig l k=ans at *
  generalize p.types.length=n1 at *
  generalize p.funcs.length=n2 at *
  generalize l.length=n3 at *
  go_enter Tryz.func174,Tryz.ntmps174
  go_wp2_with fail
  rw [← HW.out]
  refine HC.out.mono ?_
  rintro e w1 ⟨rfl,hb1⟩
  have h1:=h0.go hb1
  clear HC hb1
  go_wp2
  go_ret
  exact ⟨by rw [HA.out];rfl,h1.out HBW.out⟩
 | true =>
  have hk0:=(isK_at hb).1
  rw [hb] at HC HA
  obtain ⟨n,rfl⟩:∃ n:Nat,sig=n:=⟨sig.toNat,by omega⟩
  have hn:n < p.types.length:=by omega
  have hnl:(n:Int) < (p.types.length:Int):=by omega
  obtain ⟨g,off,pa,pc,rfl,_,c1,_,c3,cp⟩:=ty_later HTY.out n hn
  have HS:=hid (fun wx (h:Aft W wx)=>sameInts_calls _ _ _ _ wx (cp wx h) (HL.out.below h.below))
  have HX:Hid (((tyN p.types n).elem == k)=decide ((tyN p.types n).elem=k)):=by show _=_;rw [Bool.eq_iff_iff];simp
  clear hb HTY HL hl hk cp
  generalize callK p.types n l k=ans at *
  generalize decide ((tyN p.types n).parts=l)=d1 at *
  generalize (tyN p.types n).parts.length=n4 at *
  generalize (tyN p.types n).elem=te at *
  generalize p.types.length=n1 at *
  generalize p.funcs.length=n2 at *
  generalize l.length=n3 at *
  go_enter Tryz.func174,Tryz.ntmps174
  go_wp2_with fail
  rw [← HW.out]
  refine HC.out.mono ?_
  rintro e w1 ⟨rfl,hb1⟩
  have h1:=h0.go hb1
  have HS1:=hid (HS.out w1 h1)
  clear HC hb1 HS
  go_wp2_with fail
  refine HS1.out.mono ?_
  rintro e w2 ⟨rfl,hb2⟩
  have h2:=h1.go hb2
  clear HS1 hb2
  cases d1
  ·go_wp2
   go_ret
   exact ⟨by rw [HA.out];rfl,h2.out HBW.out⟩
  ·go_wp2
   go_ret
   exact ⟨by rw [HA.out,← HX.out];rfl,h2.out HBW.out⟩

end Go.Proofs.YtpejpnffcepdlaaGreatDoor.SwA
namespace Go.Proofs.YtpejpnffcepdlaaGreatDoor.SwM
open Go.RowKit Go.Lib RwO SetP IntO TyM TyP TyB TyC TyRA TyRE ShM ShP ShA ShB ShC ShE ShRA ShH ShI ShJ ShRG Aft FwM FwC FwP FwQ FwR FvA FvB FdQ LvM SvQ SvP SwA RgZ IntG

theorem partZ_calls (x:Ty) (pv:Value) (n:Int) (w:World) (hp:IntsAt w pv x.parts):Calls Tryz.prog 204 #[tyV x pv,.int .i64 n] w (NumR (partZ x n) w):=by
 obtain ⟨pa,pc,rfl,hpl⟩:=ints_slice hp
 obtain ⟨W,hW⟩:∃ W,W=w.alloc (.cells #[.int .u8 x.kind,.int .i64 x.elem,.int .i64 x.many,.slice pa x.parts.length pc] 43):=⟨_,rfl⟩
 have hbW:Below w.heap.size w W:=by rw [hW];exact alloc_below _ _
 have k1:W.heap[w.heap.size]?=some (.cells #[.int .u8 x.kind,.int .i64 x.elem,.int .i64 x.many,.slice pa x.parts.length pc] 43 (0,0)):=by rw [hW];exact TyD.alloc_new _ _
 have m0:=later_cells k1 0 _ rfl W (Aft.refl W);have m1:=later_cells k1 1 _ rfl W (Aft.refl W);have m2:=later_cells k1 2 _ rfl W (Aft.refl W);have m3:=later_cells k1 3 _ rfl W (Aft.refl W)
 have hpW:=hp.below hbW
 have HW:=hid hW
 have HA:Hid (partZ x n=if x.kind=4∧0≤n∧n < x.parts.length then (x.parts[n.toNat]?).getD 0 else if x.kind=5∧0≤n∧n < x.many then x.elem else -1):=rfl
 clear hp hbW hW k1 hpl
 generalize partZ x n=ans at *
 obtain ⟨xk,xe,xm,xp⟩:=x
 simp only at *
 have H5:Hid (xk≠4∨n < 0∨(xp.length:Int)≤n→ans=if xk=5∧0≤n∧n < xm then xe else -1):=fun h=>by
  rw [HA.out,if_neg]
  rintro ⟨h1,h2,h3⟩
  rcases h with h | h | h
  ·exact h h1
  ·omega
  ·omega
 by_cases h4:xk=4
 ·by_cases h0:0≤n
  ·by_cases hl:n < xp.length
   ·obtain ⟨k,rfl⟩:∃ k:Nat,n=k:=⟨n.toNat,by omega⟩
    have hk:k < xp.length:=by omega
    obtain ⟨b,off,rfl,_,c0⟩:=TyP.ints_at hpW k hk
    have HX:Hid (ans=xp[k]):=by
     show _=_
     rw [HA.out,if_pos ⟨h4,h0,hl⟩,Int.toNat_natCast,List.getElem?_eq_getElem hk]
     rfl
    have e4:(xk == 4)=true:=by simpa using h4
    clear hpW HA H5 h4
    generalize xp[k]=u at *
    generalize xp.length=m at *
    go_enter Tryz.func204,Tryz.ntmps204
    rw [HW.out] at m0 m1 m2 m3 c0
    go_wp2
    all_goals first | (exfalso;omega) | skip
    go_ret
    exact ⟨by rw [HX.out];rfl,alloc_below _ _⟩
   ·have HX:=hid (H5.out (.inr (.inr (by omega))))
    have e4:(xk == 4)=true:=by simpa using h4
    clear hpW HA H5
    generalize xp.length=m at *
    go_enter Tryz.func204,Tryz.ntmps204
    rw [HW.out] at m0 m1 m2 m3
    by_cases h5:xk=5
    ·have e5:(xk == 5)=true:=by simpa using h5
     go_wp2
     all_goals first | (exfalso;omega) | (go_ret;refine ⟨?_,alloc_below _ _⟩;rw [HX.out];first | (rw [if_pos (by omega)];rfl) | (rw [if_neg (by omega)];rfl))
    ·have e5:(xk == 5)=false:=by simpa using h5
     go_wp2
     all_goals first | (exfalso;omega) | (go_ret;refine ⟨?_,alloc_below _ _⟩;rw [HX.out];first | (rw [if_pos (by omega)];rfl) | (rw [if_neg (by omega)];rfl))
  ·have HX:=hid (H5.out (.inr (.inl (by omega))))
   have e4:(xk == 4)=true:=by simpa using h4
   clear hpW HA H5
   generalize xp.length=m at *
   go_enter Tryz.func204,Tryz.ntmps204
   rw [HW.out] at m0 m1 m2 m3
   by_cases h5:xk=5
   ·have e5:(xk == 5)=true:=by simpa using h5
    go_wp2
    all_goals first | (exfalso;omega) | (go_ret;refine ⟨?_,alloc_below _ _⟩;rw [HX.out];first | (rw [if_pos (by omega)];rfl) | (rw [if_neg (by omega)];rfl))
   ·have e5:(xk == 5)=false:=by simpa using h5
    go_wp2
    all_goals first | (exfalso;omega) | (go_ret;refine ⟨?_,alloc_below _ _⟩;rw [HX.out];first | (rw [if_pos (by omega)];rfl) | (rw [if_neg (by omega)];rfl))
 ·have HX:=hid (H5.out (.inl h4))
  have e4:(xk == 4)=false:=by simpa using h4
  clear hpW HA H5
  generalize xp.length=m at *
  go_enter Tryz.func204,Tryz.ntmps204
  rw [HW.out] at m0 m1 m2 m3
  by_cases h5:xk=5
  ·have e5:(xk == 5)=true:=by simpa using h5
   go_wp2
   all_goals first | (exfalso;omega) | (go_ret;refine ⟨?_,alloc_below _ _⟩;rw [HX.out];first | (rw [if_pos (by omega)];rfl) | (rw [if_neg (by omega)];rfl))
  ·have e5:(xk == 5)=false:=by simpa using h5
   go_wp2
   all_goals first | (exfalso;omega) | (go_ret;refine ⟨?_,alloc_below _ _⟩;rw [HX.out];first | (rw [if_pos (by omega)];rfl) | (rw [if_neg (by omega)];rfl))
theorem toK_low {t:List Ty} (h:chkT t=0) {k:Int} (hk:k < t.length):toK t k < t.length:=by
 unfold toK
 by_cases e:isK t k 2=true
 ·rw [if_pos e]
  obtain ⟨h0,h1⟩:=isK_at e
  have hm:=good_at h h0 hk
  unfold mayX at hm
  rw [if_neg (by omega),if_pos h1] at hm
  simp only [Bool.and_eq_true] at hm
  exact (lowB_iff.1 hm.1 _ (by simp)).2
 ·rw [if_neg e];omega
theorem getD_at {l:List Int} {k:Nat} (h:k < l.length):l[k]?=some (l.getD k 0):=by rw [List.getD_eq_getElem?_getD,List.getElem?_eq_getElem h];rfl

theorem memory_calls (p:Px) (x:Ix) (va vf:Value) (l:List Int) (v vl:Value) (w:World) (hp:PrAt w v p) (hc:chkT p.types=0) (hva:∃ a n c,va=.slice a n c) (hvf:∃ a n c,vf=.slice a n c) (hl:IntsAt w vl l) (hl0:0 < l.length) (hl1:x.op=15∨x.op=17→1 < l.length) (hlt:∀ n∈l,n < p.types.length) (hty:x.typ < p.types.length) (hop:14≤x.op∧x.op≤17) :
  Calls Tryz.prog 173 #[v,ixV x va vf,vl] w (BoolR (memB p.types x l) w):=by
 have hp0:=hp
 obtain ⟨vt,vf0,rfl,ht,hf⟩:=hp
 obtain ⟨aa,an,ac,rfl⟩:=hva
 obtain ⟨ra,rn,rc,rfl⟩:=hvf
 obtain ⟨W1,hW1⟩:∃ W1,W1=w.alloc (.cells #[vt,vf0] 27):=⟨_,rfl⟩
 obtain ⟨W,hW⟩:∃ W,W=W1.alloc (.cells #[.int .u8 x.op,.int .i64 x.typ,.int .i64 x.a,.int .i64 x.b,.int .i64 x.n,.slice aa an ac,.slice ra rn rc] 31):=⟨_,rfl⟩
 have hb1:Below w.heap.size w W1:=by rw [hW1];exact alloc_below _ _
 have hs1:W1.heap.size=w.heap.size+1:=by rw [hW1];simp
 have hb2:Below W1.heap.size W1 W:=by rw [hW];exact alloc_below _ _
 have k0:W1.heap[w.heap.size]?=some (.cells #[vt,vf0] 27 (0,0)):=by rw [hW1];exact alloc_new _ _
 have k1:W.heap[W1.heap.size]?=some (.cells #[.int .u8 x.op,.int .i64 x.typ,.int .i64 x.a,.int .i64 x.b,.int .i64 x.n,.slice aa an ac,.slice ra rn rc] 31 (0,0)):=by rw [hW];exact TyD.alloc_new _ _
 have k2:W.heap[w.heap.size]?=some (.cells #[vt,vf0] 27 (0,0)):=(hb2.block _ (Array.getElem?_eq_some_iff.1 k0).1).trans k0
 have hbW:Below w.heap.size w W:=hb1.trans (hb2.mono hb1.size)
 have HP:=hid (hp0.below hbW)
 have HTY:=hid (ht.below hbW)
 have HLI:=hid (hl.below hbW)
 obtain ⟨ta,tc,rfl⟩:=ht.slice
 obtain ⟨fa,fc,rfl,_⟩:=hf.slice
 obtain ⟨la,lc,rfl,_⟩:=ints_slice hl
 rw [hs1] at k1
 have l0:=later_cells k2 0 _ rfl;have l1:=later_cells k2 1 _ rfl
 have m0:=later_cells k1 0 _ rfl;have m1:=later_cells k1 1 _ rfl;have m2:=later_cells k1 2 _ rfl;have m3:=later_cells k1 3 _ rfl;have m4:=later_cells k1 4 _ rfl;have m5:=later_cells k1 5 _ rfl;have m6:=later_cells k1 6 _ rfl
 have HBW:=hid hbW
 have HW1:=hid hW1
 have HW:=hid hW
 have h0:=Aft.refl W
 obtain ⟨lb,lo,rfl,c0⟩:=int_at HLI.out (getD_at hl0)
 have n0:=later c0
 rw [Nat.add_zero] at n0
 have hm0:=hlt _ (List.mem_of_getElem? (getD_at hl0))
 have HTO:=hid (fun wx (h:Aft W wx)=>to_calls p (l.getD 0 0) _ wx (HP.out.below h.below) hm0)
 have HTK:=hid (toK_low hc hm0)
 have HL1:=hid (fun (h:x.op=15∨x.op=17)=>getD_at (hl1 h))
 have HLT:=hid hlt
 have HTX:=hid hty
 have HM:Hid (memB p.types x l=if x.op=14 then isK p.types (toK p.types (l.getD 0 0)) 4 && partK p.types x.typ (partZ (tyN p.types (toK p.types (l.getD 0 0))) x.n)
  else if x.op=15 then isK p.types (toK p.types (l.getD 0 0)) 5 && (isK p.types (l.getD 1 0) 1 && partK p.types x.typ (tyN p.types (toK p.types (l.getD 0 0))).elem)
  else if x.op=16 then scalK p.types (toK p.types (l.getD 0 0)) && decide (x.typ=toK p.types (l.getD 0 0))
  else scalK p.types (toK p.types (l.getD 0 0)) && decide (l.getD 1 0=toK p.types (l.getD 0 0))):=rfl
 have hll:0 < l.length:=hl0
 have hop1:=hop.1
 have hop2:=hop.2
 clear hp0 ht hf hl hW1 hW hb1 hb2 hs1 k0 k1 k2 hbW c0 hl0 hl1 hlt hty hc hm0 hop
 generalize memB p.types x l=ans at *
 generalize toK p.types (l.getD 0 0)=s at *
 generalize l.getD 0 0=u0 at *
 generalize l.getD 1 0=u1 at *
 obtain ⟨xop,xty,xa,xb,xn,xar,xfr⟩:=x
 simp only at *
 go_enter Tryz.func173,Tryz.ntmps173
 go_upto_region 1 with fail
 rw [← HW1.out,← HW.out]
 go_region_held3 (fun w'=>Aft W w') (first | exact h0.drew.go hb1 | exact h0.drew)
  ((go_at_call 202;(with_reducible refine (HTO.out _ h0.drew).mono ?_);rintro e w1 ⟨rfl,hb1⟩))
 all_goals
  have h1:=h0.drew.go hb1
  have HE:=hid (fun w' (h:Aft W w')=>h.out HBW.out)
  clear HTO hb1 h0 n0
  by_cases g14:xop=14
  ·rw [if_pos g14] at HM
   have e14:(xop == 14)=true:=by simpa using g14
   have HI:=hid (fun wx (h:Aft W wx)=>is_calls p s 4 _ wx (HP.out.below h.below) HTK.out)
   cases hb:isK p.types s 4 with
   | false =>
    rw [hb] at HM HI
    clear hb g14
    generalize p.types.length=q1 at *
    generalize p.funcs.length=q2 at *
    generalize l.length=q3 at *
    go_wp2_with fail
    have h1d:=h1.drew
    refine wp_region_noPanic ?_
    refine wp_region_Z (S:=(fun w'=>Aft W w')) (Z:=[]) (by kernel_rfl) ?_ (fun hHeld=>?_)
    ·(try dsimp only)
     (exact h1d)
    refine zT 0 rfl ?_
    refine zP 1 rfl ?_
    refine zC 2 rfl (fun K hK=>?_)
    go_simp
    (with_reducible refine (HI.out _ h1d).mono ?_)
    rintro e w2 ⟨rfl,hb2⟩
    refine hK.out _ _ ?_ (fun hHeld=>?_)
    ·(try dsimp only)
     (exact h1d.go hb2)
    clear hK K
    refine zP 3 rfl ?_
    refine zU 4 rfl ?_
    refine zU 5 rfl ?_
    refine zU 6 rfl ?_
    refine zU 7 rfl ?_
    refine zU 8 rfl ?_
    refine zU 9 rfl ?_
    refine zU 10 rfl ?_
    refine zU 11 rfl ?_
    refine zU 12 rfl ?_
    refine zU 13 rfl ?_
    refine zU 14 rfl ?_
    refine zU 15 rfl ?_
    refine zC 16 rfl (fun K hK=>?_)
    go_simp
    refine hK.out _ _ ?_ (fun hHeld=>?_)
    ·(try dsimp only)
     (exact h1d.go hb2)
    clear hK K
    refine zT 17 rfl ?_
    try simp only [Act.put,List.setIfInBounds_toArray,List.set_cons_zero,List.set_cons_succ]
    refine wpAnyZ_done (by kernel_rfl) ?_ _
    refine NoPanic.normal ?_
    (try simp only [Exit.then])
    go_wp2
    go_ret
    exact ⟨by rw [HM.out];rfl,HE.out _ (h1d.go hb2)⟩
   | true =>
    rw [hb,Bool.true_and] at HM
    rw [hb] at HI
    have hs0:=(isK_at hb).1
    obtain ⟨n,rfl⟩:∃ n:Nat,s=n:=⟨s.toNat,by omega⟩
    have hn:n < p.types.length:=by have:=HTK.out;omega
    have hnl:(n:Int) < (p.types.length:Int):=by omega
    obtain ⟨g,off,pa,pc,rfl,t0,t1,t2,t3,tp⟩:=ty_later HTY.out n hn
    have HPO:=hid (fun wx (h:Aft W wx)=>partZ_calls (tyN p.types n) _ xn wx (tp wx h))
    have HPC:=hid (fun m wx (h:Aft W wx)=>part_calls p xty m _ wx (HP.out.below h.below) HTX.out)
    clear hb g14 tp
    generalize partZ (tyN p.types n) xn=pz at *
    generalize p.types.length=q1 at *
    generalize p.funcs.length=q2 at *
    generalize l.length=q3 at *
    go_wp2_with fail
    have h1d:=h1.drew
    go_region_held3 (fun w'=>Aft W w') (first | exact ((h1d.go hb2).go hb3).go hb4 | exact (h1d.go hb2).go hb3 | exact h1d.go hb2 | exact h1d)
     (first
      | ((go_at_call 37;(with_reducible refine (HI.out _ h1d).mono ?_);rintro e w2 ⟨rfl,hb2⟩))
      | ((go_at_call 204;(with_reducible refine (HPO.out _ (h1d.go hb2)).mono ?_);rintro e w3 ⟨rfl,hb3⟩))
      | ((go_at_call 203;(with_reducible refine (HPC.out _ _ ((h1d.go hb2).go hb3)).mono ?_);rintro e w4 ⟨rfl,hb4⟩)))
    all_goals
     go_wp2
     go_ret
     exact ⟨by rw [HM.out];rfl,HE.out _ (((h1d.go hb2).go hb3).go hb4)⟩
  rw [if_neg g14] at HM
  have e14:(xop == 14)=false:=by simpa using g14
  by_cases g15:xop=15
  ·rw [if_pos g15] at HM
   have e15:(xop == 15)=true:=by simpa using g15
   obtain ⟨lb1,lo1,he1,c1⟩:=int_at HLI.out (HL1.out (.inl g15))
   cases he1
   have n1:=later c1
   have hll1:1 < l.length:=(List.getElem?_eq_some_iff.1 (HL1.out (.inl g15))).1
   have hll2:(1:Int) < (l.length:Int):=by omega
   have hm1:=HLT.out _ (List.mem_of_getElem? (HL1.out (.inl g15)))
   have HI:=hid (fun wx (h:Aft W wx)=>is_calls p s 5 _ wx (HP.out.below h.below) HTK.out)
   have HU:=hid (fun wx (h:Aft W wx)=>is_calls p u1 1 _ wx (HP.out.below h.below) hm1)
   clear c1 HL1 hm1
   cases hb:isK p.types s 5 with
   | false =>
    rw [hb] at HM HI
    clear hb g14 g15 HU
    generalize p.types.length=q1 at *
    generalize p.funcs.length=q2 at *
    generalize l.length=q3 at *
    go_wp2_with fail
    have h1d:=h1.drew
    refine wp_region_noPanic ?_
    refine wp_region_Z (S:=(fun w'=>Aft W w')) (Z:=[]) (by kernel_rfl) ?_ (fun hHeld=>?_)
    ·(try dsimp only)
     (exact h1d)
    refine zT 0 rfl ?_
    refine zP 1 rfl ?_
    refine zC 2 rfl (fun K hK=>?_)
    go_simp
    (with_reducible refine (HI.out _ h1d).mono ?_)
    rintro e w2 ⟨rfl,hb2⟩
    refine hK.out _ _ ?_ (fun hHeld=>?_)
    ·(try dsimp only)
     (exact h1d.go hb2)
    clear hK K
    refine zP 3 rfl ?_
    refine zU 4 rfl ?_
    refine zU 5 rfl ?_
    refine zU 6 rfl ?_
    refine zU 7 rfl ?_
    refine zU 8 rfl ?_
    refine zC 9 rfl (fun K hK=>?_)
    go_simp
    refine hK.out _ _ ?_ (fun hHeld=>?_)
    ·(try dsimp only)
     (exact h1d.go hb2)
    clear hK K
    refine zP 10 rfl ?_
    refine zU 11 rfl ?_
    refine zU 12 rfl ?_
    refine zU 13 rfl ?_
    refine zU 14 rfl ?_
    refine zU 15 rfl ?_
    refine zU 16 rfl ?_
    refine zU 17 rfl ?_
    refine zU 18 rfl ?_
    refine zU 19 rfl ?_
    refine zU 20 rfl ?_
    refine zC 21 rfl (fun K hK=>?_)
    go_simp
    refine hK.out _ _ ?_ (fun hHeld=>?_)
    ·(try dsimp only)
     (exact h1d.go hb2)
    clear hK K
    refine zT 22 rfl ?_
    try simp only [Act.put,List.setIfInBounds_toArray,List.set_cons_zero,List.set_cons_succ]
    refine wpAnyZ_done (by kernel_rfl) ?_ _
    refine NoPanic.normal ?_
    (try simp only [Exit.then])
    go_wp2
    go_ret
    exact ⟨by rw [HM.out];rfl,HE.out _ (h1d.go hb2)⟩
   | true =>
    rw [hb,Bool.true_and] at HM
    rw [hb] at HI
    have hs0:=(isK_at hb).1
    cases hc:isK p.types u1 1 with
    | false =>
     rw [hc] at HM HU
     clear hb hc g14 g15
     generalize p.types.length=q1 at *
     generalize p.funcs.length=q2 at *
     generalize l.length=q3 at *
     go_wp2_with fail
     have h1d:=h1.drew
     refine wp_region_noPanic ?_
     refine wp_region_Z (S:=(fun w'=>Aft W w')) (Z:=[]) (by kernel_rfl) ?_ (fun hHeld=>?_)
     ·(try dsimp only)
      (exact h1d)
     refine zT 0 rfl ?_
     refine zP 1 rfl ?_
     refine zC 2 rfl (fun K hK=>?_)
     go_simp
     (with_reducible refine (HI.out _ h1d).mono ?_)
     rintro e w2 ⟨rfl,hb2⟩
     refine hK.out _ _ ?_ (fun hHeld=>?_)
     ·(try dsimp only)
      (exact h1d.go hb2)
     clear hK K
     refine zP 3 rfl ?_
     refine zT 4 rfl ?_
     refine zP 5 rfl ?_
     refine zP 6 rfl ?_
     refine zT 7 rfl ?_
     refine zC 8 rfl (fun K hK=>?_)
     go_simp
     (with_reducible refine (HU.out _ (h1d.go hb2)).mono ?_)
     rintro e w3 ⟨rfl,hb3⟩
     refine hK.out _ _ ?_ (fun hHeld=>?_)
     ·(try dsimp only)
      (exact (h1d.go hb2).go hb3)
     clear hK K
     refine zC 9 rfl (fun K hK=>?_)
     go_simp
     refine hK.out _ _ ?_ (fun hHeld=>?_)
     ·(try dsimp only)
      (exact (h1d.go hb2).go hb3)
     clear hK K
     refine zP 10 rfl ?_
     refine zU 11 rfl ?_
     refine zU 12 rfl ?_
     refine zU 13 rfl ?_
     refine zU 14 rfl ?_
     refine zU 15 rfl ?_
     refine zU 16 rfl ?_
     refine zU 17 rfl ?_
     refine zU 18 rfl ?_
     refine zU 19 rfl ?_
     refine zU 20 rfl ?_
     refine zC 21 rfl (fun K hK=>?_)
     go_simp
     refine hK.out _ _ ?_ (fun hHeld=>?_)
     ·(try dsimp only)
      (exact (h1d.go hb2).go hb3)
     clear hK K
     refine zT 22 rfl ?_
     try simp only [Act.put,List.setIfInBounds_toArray,List.set_cons_zero,List.set_cons_succ]
     refine wpAnyZ_done (by kernel_rfl) ?_ _
     refine NoPanic.normal ?_
     (try simp only [Exit.then])
     go_wp2
     go_ret
     exact ⟨by rw [HM.out];rfl,HE.out _ ((h1d.go hb2).go hb3)⟩
    | true =>
     rw [hc,Bool.true_and] at HM
     rw [hc] at HU
     obtain ⟨n,rfl⟩:∃ n:Nat,s=n:=⟨s.toNat,by omega⟩
     have hn:n < p.types.length:=by have:=HTK.out;omega
     have hnl:(n:Int) < (p.types.length:Int):=by omega
     obtain ⟨g,off,pa,pc,rfl,t0,t1,t2,t3,tp⟩:=ty_later HTY.out n hn
     have HPC:=hid (fun m wx (h:Aft W wx)=>part_calls p xty m _ wx (HP.out.below h.below) HTX.out)
     clear hb hc g14 g15 tp
     generalize p.types.length=q1 at *
     generalize p.funcs.length=q2 at *
     generalize l.length=q3 at *
     go_wp2_with fail
     have h1d:=h1.drew
     go_region_held3 (fun w'=>Aft W w') (first | exact ((h1d.go hb2).go hb3).go hb4 | exact (h1d.go hb2).go hb3 | exact h1d.go hb2 | exact h1d)
      (first
       | ((go_at_call 37;(with_reducible refine (HI.out _ h1d).mono ?_);rintro e w2 ⟨rfl,hb2⟩))
       | ((go_at_call 37;(with_reducible refine (HU.out _ (h1d.go hb2)).mono ?_);rintro e w3 ⟨rfl,hb3⟩))
       | ((go_at_call 203;(with_reducible refine (HPC.out _ _ ((h1d.go hb2).go hb3)).mono ?_);rintro e w4 ⟨rfl,hb4⟩)))
     all_goals
      go_wp2
      go_ret
      exact ⟨by rw [HM.out];rfl,HE.out _ (((h1d.go hb2).go hb3).go hb4)⟩
  rw [if_neg g15] at HM
  have e15:(xop == 15)=false:=by simpa using g15
  have HSC:=hid (fun wx (h:Aft W wx)=>scalar_calls p s _ wx (HP.out.below h.below))
  by_cases g16:xop=16
  ·rw [if_pos g16] at HM
   have e16:(xop == 16)=true:=by simpa using g16
   have HX:Hid ((xty == s)=decide (xty=s)):=by show _=_;rw [Bool.eq_iff_iff];simp
   clear g14 g15 g16
   generalize scalK p.types s=sb at *
   generalize p.types.length=q1 at *
   generalize p.funcs.length=q2 at *
   generalize l.length=q3 at *
   go_wp2_with fail
   refine (HSC.out _ h1).mono ?_
   rintro e w2 ⟨rfl,hb2⟩
   have h2:=h1.go hb2
   clear HSC hb2 h1
   cases sb
   ·go_wp2
    go_ret
    exact ⟨by rw [HM.out];rfl,HE.out _ h2⟩
   ·go_wp2
    go_ret
    exact ⟨by rw [HM.out,← HX.out];rfl,HE.out _ h2⟩
  ·rw [if_neg g16] at HM
   have e16:(xop == 16)=false:=by simpa using g16
   have g17:xop=17:=by omega
   obtain ⟨lb1,lo1,he1,c1⟩:=int_at HLI.out (HL1.out (.inr g17))
   cases he1
   have n1:=later c1
   have HX:Hid ((u1 == s)=decide (u1=s)):=by show _=_;rw [Bool.eq_iff_iff];simp
   have hll1:1 < l.length:=(List.getElem?_eq_some_iff.1 (HL1.out (.inr g17))).1
   clear g14 g15 g16 g17 c1 HL1
   generalize scalK p.types s=sb at *
   generalize p.types.length=q1 at *
   generalize p.funcs.length=q2 at *
   generalize l.length=q3 at *
   go_wp2_with fail
   refine (HSC.out _ h1).mono ?_
   rintro e w2 ⟨rfl,hb2⟩
   have h2:=h1.go hb2
   clear HSC hb2 h1
   cases sb
   ·go_wp2
    go_ret
    exact ⟨by rw [HM.out];rfl,HE.out _ h2⟩
   ·go_wp2
    go_ret
    exact ⟨by rw [HM.out,← HX.out];rfl,HE.out _ h2⟩
end Go.Proofs.YtpejpnffcepdlaaGreatDoor.SwM
namespace Go.Proofs.YtpejpnffcepdlaaGreatDoor.SwT
open Go.RowKit Go.Lib RwO SetP IntO TyM TyP TyB TyC TyRA TyRE ShM ShP ShA ShB ShC ShE ShRA ShH ShI ShJ ShK ShL ShRG ShRH ShRI ShBP Aft FwM FwC FwP FwQ FwR FvA FvB FdM FdQ FdE LvM SvQ SvP SwA IntG BlkG

/-! Type -/
theorem type_calls (p:Px) (k:Nat) (x:Fx) (r:Int) (v:Value) (w:World) (hp:PrAt w v p) (hs:Small p) (hok:POk p) (hx:Has1 p k k x) (r0:0≤r) (r1:r < ((parOf p.types x.sig+manyB x.blocks:Nat):Int)) :
  Calls Tryz.prog 34 #[v,.int .i64 (k:Int),.int .i64 r] w (NumR (typeI p.types x r) w):=by
 have hp0:=hp
 obtain ⟨vt,vf,rfl,ht,hf⟩:=hp
 obtain ⟨W,hW⟩:∃ W,W=w.alloc (.cells #[vt,vf] 27):=⟨_,rfl⟩
 have hbW:Below w.heap.size w W:=by rw [hW];exact alloc_below _ _
 have k1:W.heap[w.heap.size]?=some (.cells #[vt,vf] 27 (0,0)):=by rw [hW];exact alloc_new _ _
 have HP:=hid (hp0.below hbW)
 have HTY:=hid (ht.below hbW)
 have hfW:=hf.below fnStays hbW
 obtain ⟨ta,tc,rfl⟩:=ht.slice
 obtain ⟨fa,fc,rfl,_⟩:=hf.slice
 obtain ⟨fb,foff,fcap,ao,bc,he,d0,d1,hbl⟩:=fn_later hfW hx
 cases he
 have l0:∀ w',Aft W w'→w'.cell? ⟨w.heap.size,0,none⟩=some (.slice ta p.types.length tc):=later_cells k1 0 _ rfl
 have l1:∀ w',Aft W w'→w'.cell? ⟨w.heap.size,1,none⟩=some (.slice (some ⟨fb,foff,none⟩) p.funcs.length fc):=later_cells k1 1 _ rfl
 have HBW:=hid hbW
 have HW:=hid hW
 have h0:=Aft.refl W
 clear ht hf hfW hbW hW k1 hp0
 have hle:parOf p.types x.sig+manyB x.blocks≤1000000:=by
  have:=par_le hs.parts hx.sig0 hx.sig1
  have:=hx.many
  omega
 have HWH:=hid (where_calls p k x r _ W HP.out hx hle r1)
 have hkl:=hx.lt
 have hki:(k:Int) < (p.funcs.length:Int):=by omega
 have hs0:=hx.sig0
 have hs1:=hx.sig1
 have hxm:=List.mem_of_getElem? hx.at_
 by_cases hpar:r < parOf p.types x.sig
 ·have HB1:whereB (parOf p.types x.sig) x.blocks r = -1:=by unfold whereB;rw [if_pos hpar]
  have HI1:whereI (parOf p.types x.sig) x.blocks r=r:=by unfold whereI;rw [if_pos hpar]
  rw [HB1,HI1] at HWH
  have HA:Hid (typeI p.types x r=((tyN p.types x.sig).parts[r.toNat]?).getD 0):=by show _=_;unfold typeI;rw [if_pos hpar]
  obtain ⟨n,rfl⟩:∃ n:Nat,r=n:=⟨r.toNat,by omega⟩
  have hn:n < (tyN p.types x.sig).parts.length:=by show n < parOf p.types x.sig;omega
  generalize typeI p.types x n=ans at *
  clear HB1 HI1 hx hxm r0 r1 hle hpar hbl d1 hs HP hok
  obtain ⟨sg,bl⟩:=x
  simp only at *
  obtain ⟨s,rfl⟩:∃ s:Nat,sg=s:=⟨sg.toNat,by omega⟩
  have hsl:s < p.types.length:=by omega
  obtain ⟨g,off,pa,pc,rfl,_,_,_,t3,tp⟩:=ty_later HTY.out s hsl
  obtain ⟨e,he⟩:=some_at hn
  obtain ⟨pb,po,rfl,ce⟩:=int_at (tp W h0) he
  have hnl:(n:Int) < ((tyN p.types s).parts.length:Int):=by omega
  have ce2:=later ce
  have HE:Hid (ans=e):=by show _=_;rw [HA.out,Int.toNat_natCast,he];rfl
  clear HA he ce tp HTY
  generalize (tyN p.types s).parts.length=q1 at *
  generalize p.types.length=n1 at *
  generalize p.funcs.length=n2 at *
  go_enter Tryz.func34,Tryz.ntmps34
  go_wp2_with fail
  rw [← HW.out]
  refine HWH.out.mono ?_
  rintro e w1 ⟨rfl,hb1⟩
  have h1:=h0.go hb1
  clear HWH hb1
  go_wp2_with fail
  have h1d:=h1.drew
  go_region_held3 (fun w'=>Aft W w') (exact h1d) (fail)
  all_goals
   go_wp2
   go_ret
   exact ⟨by rw [HE.out];rfl,h1d.out HBW.out⟩
 ·obtain ⟨c,q,hc,hloc,hm,hq⟩:=locate_spec x.blocks (r - parOf p.types x.sig).toNat (by omega)
  have HB1:whereB (parOf p.types x.sig) x.blocks r=c:=by unfold whereB;rw [if_neg hpar,hloc]
  have HI1:whereI (parOf p.types x.sig) x.blocks r=q:=by unfold whereI;rw [if_neg hpar,hloc]
  rw [HB1,HI1] at HWH
  have hq2:q < (insAt x.blocks c).length:=by unfold insAt;rw [List.getElem?_eq_getElem hc];exact hq
  obtain ⟨y,hy⟩:=some_at hq2
  have HA:Hid (typeI p.types x r=if answersB y.op=true then y.typ else -1):=by
   show _=_
   unfold typeI
   rw [if_neg hpar,hloc,insOf_at hy]
  obtain ⟨bb,hbb,hyb⟩:∃ b∈x.blocks,y∈b.ins:=insAt_mem hy hc
  have hop:=(hok x hxm bb hbb).2 y hyb
  have HAN:=hid (fun wx=>answersR_calls y.op hop.1 hop.2 wx)
  obtain ⟨gb,goff,xa,xc,rfl,z0,hins,_,_,_,_⟩:=blk_ins hbl hc
  obtain ⟨gi,ioff,aa,ac,fa2,fc2,rfl,i0,i1,i2,i3,i4,i5,i6,_,_⟩:=ins_later hins hy
  have hci:(c:Int) < (x.blocks.length:Int):=by omega
  have hqi:(q:Int) < ((insAt x.blocks c).length:Int):=by omega
  generalize typeI p.types x r=ans at *
  clear HB1 HI1 hx hxm r0 r1 hle hpar hbl hs HP hok d0 HTY hloc hm hq hy hbb hyb hop hins
  generalize (insAt x.blocks c).length=q1 at *
  obtain ⟨yop,yty,ya,yb,yn,yar,yfr⟩:=y
  simp only at *
  generalize answersB yop=an at *
  generalize x.blocks.length=n3 at *
  generalize p.types.length=n1 at *
  generalize p.funcs.length=n2 at *
  generalize yar.length=q4 at *
  generalize yfr.length=q5 at *
  go_enter Tryz.func34,Tryz.ntmps34
  go_wp2_with fail
  rw [← HW.out]
  refine HWH.out.mono ?_
  rintro e w1 ⟨rfl,hb1⟩
  have h1:=h0.go hb1
  obtain ⟨W5,hW5⟩:∃ W5,W5=w1.alloc (.cells #[.int .u8 yop,.int .i64 yty,.int .i64 ya,.int .i64 yb,.int .i64 yn,.slice aa q4 ac,.slice fa2 q5 fc2] 31):=⟨_,rfl⟩
  have k5:W5.heap[w1.heap.size]?=some (.cells #[.int .u8 yop,.int .i64 yty,.int .i64 ya,.int .i64 yb,.int .i64 yn,.slice aa q4 ac,.slice fa2 q5 fc2] 31 (0,0)):=by rw [hW5];exact TyD.alloc_new _ _
  have m0:∀ w',Aft W5 w'→w'.cell? ⟨w1.heap.size,0,none⟩=some (.int .u8 yop):=later_cells k5 0 _ rfl
  have m1:∀ w',Aft W5 w'→w'.cell? ⟨w1.heap.size,1,none⟩=some (.int .i64 yty):=later_cells k5 1 _ rfl
  have h5:Aft W W5:=by rw [hW5];exact h1.alloc _
  have hd5:=Aft.refl W5
  have HW5:=hid hW5
  clear HWH hb1 hW5 k5 h0
  go_upto_region 5 with fail
  rw [← HW5.out]
  clear l0 l1 d1 z0 i0 i1 i2 i3 i4 i5 i6
  go_wp2_with fail
  refine (HAN.out _).mono ?_
  rintro e w6 ⟨rfl,rfl⟩
  clear HAN
  cases an
  ·go_wp2
   go_ret
   exact ⟨by rw [HA.out];rfl,h5.out HBW.out⟩
  ·go_wp2
   go_ret
   exact ⟨by rw [HA.out];rfl,h5.out HBW.out⟩

/-! allSet -/
def AllN (q:Int→Bool) (l:List Int) (n:Nat):Prop:=∀ i u,i < n→l[i]?=some u→q u=true
theorem allN_next {q:Int→Bool} {l:List Int} {n:Nat} {u:Int} (h:AllN q l n) (hu:l[n]?=some u) (hq:q u=true):AllN q l (n+1):=by
 intro i y hi hy
 by_cases e:i=n
 ·subst e;rw [hu] at hy;cases hy;exact hq
 ·exact h i y (by omega) hy
theorem allN_all {q:Int→Bool} {l:List Int} (h:AllN q l l.length):l.all q=true:=by
 rw [List.all_eq_true]
 intro y hy
 obtain ⟨i,hi,e⟩:=List.getElem_of_mem hy
 exact h i y hi (by rw [List.getElem?_eq_getElem hi,e])
theorem all_not {q:Int→Bool} {l:List Int} {n:Nat} {u:Int} (hu:l[n]?=some u) (hq:q u=false):l.all q=false:=by
 rw [← Bool.not_eq_true,List.all_eq_true]
 intro h
 rw [h u (List.mem_of_getElem? hu)] at hq
 cases hq

theorem allSet_calls (p:Px) (f block pl:Int) (l:List Int) (v vl:Value) (w:World) (hp:PrAt w v p) (hs:Small p) (hok:POk p) (hz:findP p f=0) (hr:∀ r∈l,placeE p f r=0) (hbk:0≤block∧block < (blsP p f).length) (hl:IntsAt w vl l) (hll:l.length≤1000) :
  Calls Tryz.prog 130 #[v,.int .i64 f,vl,.int .i64 block,.int .i64 pl] w (BoolR (l.all fun r=>isSetL (parOf p.types (fnP p f).sig) (blsP p f) r block pl) w):=by
 have hp0:=hp
 obtain ⟨vt,vf,rfl,ht,hf⟩:=hp
 obtain ⟨W,hW⟩:∃ W,W=w.alloc (.cells #[vt,vf] 27):=⟨_,rfl⟩
 have hbW:Below w.heap.size w W:=by rw [hW];exact alloc_below _ _
 have k1:W.heap[w.heap.size]?=some (.cells #[vt,vf] 27 (0,0)):=by rw [hW];exact alloc_new _ _
 have HC:=hid (fun (r:Int) (h:placeE p f r=0) (wx:World) (ha:Aft W wx)=>isSet_calls p f r block pl _ wx ((hp0.below hbW).below ha.below) hs hok hz h hbk)
 have HL:=hid (hl.below hbW)
 obtain ⟨ta,tc,rfl⟩:=ht.slice
 obtain ⟨fa,fc,rfl,_⟩:=hf.slice
 obtain ⟨la,lc,rfl,_⟩:=ints_slice hl
 have l0:∀ w',Aft W w'→w'.cell? ⟨w.heap.size,0,none⟩=some (.slice ta p.types.length tc):=later_cells k1 0 _ rfl
 have l1:∀ w',Aft W w'→w'.cell? ⟨w.heap.size,1,none⟩=some (.slice fa p.funcs.length fc):=later_cells k1 1 _ rfl
 have HBW:=hid hbW
 have HW:=hid hW
 have h0:=Aft.refl W
 have HR:=hid hr
 have HLL:=hid hll
 clear ht hf hl hbW hW k1 hp0 hs hok hz hr hbk hll
 obtain ⟨q,hq⟩:∃ q:Int→Bool,q=fun r=>isSetL (parOf p.types (fnP p f).sig) (blsP p f) r block pl:=⟨_,rfl⟩
 rw [← hq]
 have HQ:=hid (fun r=>show isSetL (parOf p.types (fnP p f).sig) (blsP p f) r block pl=q r by rw [hq])
 simp only [HQ.out] at HC
 have HAL:=hid (fun (h:AllN q l l.length)=>allN_all h)
 have HNO:=hid (fun n u hu hn=>all_not (q:=q) (l:=l) (n:=n) (u:=u) hu hn)
 clear hq HQ
 generalize l.all q=ans at *
 generalize p.types.length=n1 at *
 generalize p.funcs.length=n2 at *
 go_enter Tryz.func130,Tryz.ntmps130
 go_wp2_with fail
 rw [← HW.out]
 go_loopg [11] l.length (fun gk iv wr=>∃ n:Nat,n+gk=l.length∧iv=.int .i64 n∧AllN q l n∧Aft W wr)
 case atStart=>exact ⟨0,by omega,rfl,fun i u hi=>absurd hi (by omega),h0⟩
 case round =>
  obtain ⟨n,hn,rfl,hall,hA⟩:=hrel
  have HN:=hid hn
  have HALL:=hid hall
  clear hn hall
  by_cases hnt:n < l.length
  ·have HNT:=hid hnt
   obtain ⟨u,hu⟩:=some_at hnt
   obtain ⟨b2,o2,rfl,c2⟩:=int_at (HL.out.below hA.below) hu
   have hD:=hA.drew
   have hDr:=(Aft.refl wr).drew
   have HCC:=hid (fun wx (ha:Aft wr wx)=>HC.out u (HR.out u (List.mem_of_getElem? hu)) wx (hA.trans ha))
   have HNX:=hid (fun hh=>allN_next HALL.out hu hh)
   have HN2:=hid (fun hh=>HNO.out n u hu hh)
   have hnl:(n:Int) < (l.length:Int):=by omega
   have hnb:n≤9223372036854775806:=by have:=HLL.out;omega
   have r0:=fun w' (h:Aft wr w')=>l0 w' (hA.trans h)
   have r1:=fun w' (h:Aft wr w')=>l1 w' (hA.trans h)
   have r2:=later c2
   have HAW:=hid hA
   clear hu c2 l0 l1 HC hA hD
   generalize q u=qu at *
   go_wp2_with fail
   go_region_held3 (fun w'=>Aft wr w') (first | exact hDr.go hb3 | exact hDr)
    ((go_at_call 177;refine (HCC.out _ hDr).mono ?_;rintro e w3 ⟨rfl,hb3⟩))
   all_goals
    have h3:=HAW.out.trans (hDr.go hb3)
    clear HCC hb3 r0 r1 r2 hDr
    cases hqu:qu with
    | true =>
     have HX:=hid (HNX.out hqu)
     clear hqu
     go_wp2
     go_roundg (gk - 1)
     case measure=>have:=HN.out;have:=HNT.out;omega
     case rel=>exact ⟨n+1,by have:=HN.out;have:=HNT.out;omega,by go_num,HX.out,h3⟩
    | false =>
     have HX:=hid (HN2.out hqu)
     clear hqu
     go_wp2
     go_ret
     exact ⟨by rw [HX.out];rfl,h3.out HBW.out⟩
  ·obtain rfl:n=l.length:=by have:=HN.out;omega
   have HX:=hid (HAL.out HALL.out)
   clear HALL hnt
   go_wp2
   go_ret
   exact ⟨by rw [HX.out];rfl,hA.out HBW.out⟩
end Go.Proofs.YtpejpnffcepdlaaGreatDoor.SwT
namespace Go.Proofs.YtpejpnffcepdlaaGreatDoor.SwPh
open Go.RowKit Go.Lib RwO SetP IntO TyM TyP TyB TyC TyRA TyRE ShM ShP ShA ShB ShC ShE ShRA ShH ShI ShJ ShK ShL ShRG ShRH ShRI ShBP Aft FwM FwC FwP FwQ FwR FvA FvB FvC FdM FdQ FdE LvM SvQ SvP SwA SwT RgZ IntG BlkG

theorem zip_get {a b:List Int} {i:Nat} {c u:Int} (hc:a[i]?=some c) (hu:b[i]?=some u):(a.zip b)[i]?=some (c,u):=by rw [List.getElem?_zip_eq_some];exact ⟨hc,hu⟩

theorem phi_calls (p:Px) (k:Nat) (x:Fx) (j m:Nat) (y:Ix) (v:Value) (w:World) (hp:PrAt w v p) (hs:Small p) (hok:POk p) (hz:findP p k=0) (hx:Has1 p k k x) (hj:j < x.blocks.length) (hy:(insAt x.blocks j)[m]?=some y)
  (hr:∀ r∈y.args,placeE p k r=0) (hb:∀ c∈y.frm,0≤c∧c < x.blocks.length) (hfl:y.frm.length=y.args.length) (hf16:y.frm.length≤16) (hml:(insAt x.blocks j).length≤128) :
  Calls Tryz.prog 129 #[v,.int .i64 (k:Int),.int .i64 (j:Int),.int .i64 (m:Int)] w (BoolR (phiB (parOf p.types x.sig) x.blocks j m y) w):=by
 have hp0:=hp
 obtain ⟨vt,vf,rfl,ht,hf⟩:=hp
 obtain ⟨W,hW⟩:∃ W,W=w.alloc (.cells #[vt,vf] 27):=⟨_,rfl⟩
 have hbW:Below w.heap.size w W:=by rw [hW];exact alloc_below _ _
 have k1:W.heap[w.heap.size]?=some (.cells #[vt,vf] 27 (0,0)):=by rw [hW];exact alloc_new _ _
 have hWs:W.heap.size=w.heap.size+1:=by rw [hW];simp
 have hfW:=hf.below fnStays hbW
 have HC:=hid (fun (r block pl:Int) (h:placeE p k r=0) (hbk:0≤block∧block < (blsP p k).length) (wx:World) (ha:Aft W wx)=>isSet_calls p k r block pl _ wx ((hp0.below hbW).below ha.below) hs hok hz h hbk)
 rw [fn_eq hx,fn_blocks hx] at HC
 obtain ⟨hlow,_,hl16⟩:=low_fn hok hz
 rw [fn_blocks hx] at hlow hl16
 obtain ⟨ta,tc,rfl⟩:=ht.slice
 obtain ⟨fa,fc,rfl,_⟩:=hf.slice
 obtain ⟨fb,foff,fcap,ao,bc,he,d0,d1,hbl⟩:=fn_later hfW hx
 cases he
 have l0:∀ w',Aft W w'→w'.cell? ⟨w.heap.size,0,none⟩=some (.slice ta p.types.length tc):=later_cells k1 0 _ rfl
 have l1:∀ w',Aft W w'→w'.cell? ⟨w.heap.size,1,none⟩=some (.slice (some ⟨fb,foff,none⟩) p.funcs.length fc):=later_cells k1 1 _ rfl
 have hkl:=hx.lt
 have hki:(k:Int) < (p.funcs.length:Int):=by omega
 have hji:(j:Int) < (x.blocks.length:Int):=by omega
 obtain ⟨gb,goff,xa,xc,rfl,z0,hins,z1,z2,z3,z4⟩:=blk_ins hbl hj
 have hmi0:=(List.getElem?_eq_some_iff.1 hy).1
 have hmi:(m:Int) < ((insAt x.blocks j).length:Int):=by omega
 obtain ⟨gi,ioff,aa,ac,fa2,fc2,rfl,i0,i1,i2,i3,i4,i5,i6,ja,jf⟩:=ins_later hins hy
 have HPV:Hid (∀ m1,m=m1+1→∃ o:Int,insOf x.blocks j m1=insOf x.blocks j m1∧(insOf x.blocks j m1).op=o∧∀ w',Aft W w'→w'.cell? ⟨gi,ioff+m1 * 7,none⟩=some (.int .u8 o)):=by
  intro m1 e
  obtain ⟨y1,hy1⟩:=some_at (l:=insAt x.blocks j) (i:=m1) (by omega)
  obtain ⟨gi2,ioff2,_,_,_,_,e2,q0,_⟩:=ins_later hins hy1
  cases e2
  exact ⟨y1.op,rfl,by rw [insOf_at hy1],q0⟩
 have HAH:=hid (fun wx (h:Aft W wx)=>ahead_calls x.blocks j (.slice (some ⟨gb,goff,none⟩) x.blocks.length bc) wx (hbl.below blkStays h.below) hlow (by omega))
 have HBI:=hid (fun (b:Nat) (hb:b < x.blocks.length)=>blk_ins hbl hb)
 have HPH:Hid (phiB (parOf p.types x.sig) x.blocks j m y=(decide (y.frm=ints (aheadL x.blocks j)) && (decide (m=0∨(insOf x.blocks j (m - 1)).op=22) && ((y.frm.zip y.args).all fun q=>isSetL (parOf p.types x.sig) x.blocks q.2 q.1 (insAt x.blocks q.1.toNat).length)))):=rfl
 have HBW:=hid hbW
 have HW:=hid hW
 have HR:=hid hr
 have HB:=hid hb
 have HFL:=hid hfl
 have HF16:=hid hf16
 have HJA:=hid ja
 have HJF:=hid jf
 have h0:=Aft.refl W
 clear ht hf hfW hbW hW k1 hp0 hs hok hz hx hbl hins hr hb hf16 ja jf hlow hj hy hfl
 generalize phiB (parOf p.types x.sig) x.blocks j m y=ans at *
 generalize parOf p.types x.sig=par at *
 obtain ⟨sg,bl⟩:=x
 simp only at *
 generalize endAt bl j=en at *
 obtain ⟨ek,ea,et,ee⟩:=en
 obtain ⟨yop,yty,ya,yb,yn,yar,yfr⟩:=y
 simp only at *
 obtain ⟨W2,hW2⟩:∃ W2,W2=W.alloc (.cells #[.slice (some ⟨gi,ioff,none⟩) (insAt bl j).length xc,.int .u8 ek,.int .i64 ea,.int .i64 et,.int .i64 ee] 38):=⟨_,rfl⟩
 have k2:W2.heap[W.heap.size]?=some (.cells #[.slice (some ⟨gi,ioff,none⟩) (insAt bl j).length xc,.int .u8 ek,.int .i64 ea,.int .i64 et,.int .i64 ee] 38 (0,0)):=by rw [hW2];exact TyD.alloc_new _ _
 have hW2s:W2.heap.size=w.heap.size+2:=by rw [hW2];simp [hWs]
 have a2:Aft W W2:=by rw [hW2];exact h0.alloc _
 obtain ⟨W3,hW3⟩:∃ W3,W3=W2.alloc (.cells #[.int .u8 yop,.int .i64 yty,.int .i64 ya,.int .i64 yb,.int .i64 yn,.slice aa yar.length ac,.slice fa2 yfr.length fc2] 31):=⟨_,rfl⟩
 have k3:W3.heap[W2.heap.size]?=some (.cells #[.int .u8 yop,.int .i64 yty,.int .i64 ya,.int .i64 yb,.int .i64 yn,.slice aa yar.length ac,.slice fa2 yfr.length fc2] 31 (0,0)):=by rw [hW3];exact TyD.alloc_new _ _
 have a23:Aft W2 W3:=by rw [hW3];exact (Aft.refl W2).alloc _
 rw [hWs] at k2
 rw [hW2s] at k3
 have b0:∀ w',Aft W2 w'→w'.cell? ⟨w.heap.size+1,0,none⟩=some (.slice (some ⟨gi,ioff,none⟩) (insAt bl j).length xc):=later_cells k2 0 _ rfl
 have c5:∀ w',Aft W3 w'→w'.cell? ⟨w.heap.size+2,5,none⟩=some (.slice aa yar.length ac):=later_cells k3 5 _ rfl
 have c6:∀ w',Aft W3 w'→w'.cell? ⟨w.heap.size+2,6,none⟩=some (.slice fa2 yfr.length fc2):=later_cells k3 6 _ rfl
 have a3:=a2.trans a23
 have HW2:=hid hW2
 have HW3:=hid hW3
 have HW2s:=hid hW2s
 have HA3:=hid a3
 clear hW2 hW3 k2 k3
 go_enter Tryz.func129,Tryz.ntmps129
 go_upto_region 1 with fail
 rw [← HW.out]
 go_upto_region 2 with fail
 rw [← HW2.out]
 have b0':=b0 W2 (Aft.refl W2)
 have i0':=fun w' (h:Aft W2 w')=>i0 w' (a2.trans h)
 have i1':=fun w' (h:Aft W2 w')=>i1 w' (a2.trans h)
 have i2':=fun w' (h:Aft W2 w')=>i2 w' (a2.trans h)
 have i3':=fun w' (h:Aft W2 w')=>i3 w' (a2.trans h)
 have i4':=fun w' (h:Aft W2 w')=>i4 w' (a2.trans h)
 have i5':=fun w' (h:Aft W2 w')=>i5 w' (a2.trans h)
 have i6':=fun w' (h:Aft W2 w')=>i6 w' (a2.trans h)
 have hr2:=Aft.refl W2
 go_upto_region 3 with fail
 first | rw [hW2s,← HW3.out] | rw [← HW3.out]
 clear i0 i1 i2 i3 i4 i5 i6 i0' i1' i2' i3' i4' i5' i6' b0' hr2
 have r0:=fun w' (h:Aft W3 w')=>l0 w' (a3.trans h)
 have r1:=fun w' (h:Aft W3 w')=>l1 w' (a3.trans h)
 have r2:=fun w' (h:Aft W3 w')=>d1 w' (a3.trans h)
 have rb:=fun w' (h:Aft W3 w')=>b0 w' (a23.trans h)
 have HAH3:=hid (fun wx (h:Aft W3 wx)=>HAH.out wx (a3.trans h))
 have HSM:=hid (fun u wx (h:Aft W3 wx) (hu:IntsAt wx u (ints (aheadL bl j)))=>sameInts_calls _ u _ _ wx (HJF.out wx (a3.trans h)) hu)
 have hD:=(Aft.refl W3).drew
 clear l0 l1 d0 d1 b0 z0 z1 z2 z3 z4 HAH a2 a23 HW HW2 HW3 hW2s HW2s h0 a3
 cases hsame:decide (yfr=ints (aheadL bl j)) with
 | false =>
  rw [hsame] at HPH
  rw [hsame] at HSM
  clear hsame
  refine wp_region_noPanic ?_
  refine wp_region_Z (S:=(fun w'=>Aft W3 w')) (Z:=[]) (by kernel_rfl) ?_ (fun hHeld=>?_)
  ·(try dsimp only)
   (exact hD)
  refine zP 0 rfl ?_
  refine zT 1 rfl ?_
  refine zP 2 rfl ?_
  refine zT 3 rfl ?_
  refine zP 4 rfl ?_
  refine zP 5 rfl ?_
  refine zP 6 rfl ?_
  refine zT 7 rfl ?_
  refine zP 8 rfl ?_
  refine zC 9 rfl (fun K hK=>?_)
  go_simp
  (with_reducible refine (HAH3.out _ hD).mono ?_)
  rintro e wq ⟨uq,rfl,huq,hbq⟩
  refine hK.out _ _ ?_ (fun hHeld=>?_)
  ·(try dsimp only)
   (exact hD.go hbq)
  clear hK K
  refine zC 10 rfl (fun K hK=>?_)
  go_simp
  (with_reducible refine (HSM.out _ _ (hD.go hbq) huq).mono ?_)
  rintro e wp ⟨rfl,hbp⟩
  refine hK.out _ _ ?_ (fun hHeld=>?_)
  ·(try dsimp only)
   (exact (hD.go hbq).go hbp)
  clear hK K
  refine zC 11 rfl (fun K hK=>?_)
  go_simp
  refine hK.out _ _ ?_ (fun hHeld=>?_)
  ·(try dsimp only)
   (exact (hD.go hbq).go hbp)
  clear hK K
  refine zP 12 rfl ?_
  refine zU 13 rfl ?_
  refine zU 14 rfl ?_
  refine zU 15 rfl ?_
  refine zU 16 rfl ?_
  refine zU 17 rfl ?_
  refine zU 18 rfl ?_
  refine zU 19 rfl ?_
  refine zU 20 rfl ?_
  refine zU 21 rfl ?_
  refine zU 22 rfl ?_
  refine zU 23 rfl ?_
  refine zU 24 rfl ?_
  refine zC 25 rfl (fun K hK=>?_)
  go_simp
  refine hK.out _ _ ?_ (fun hHeld=>?_)
  ·(try dsimp only)
   (exact (hD.go hbq).go hbp)
  clear hK K
  try simp only [Act.put,List.setIfInBounds_toArray,List.set_cons_zero,List.set_cons_succ]
  refine wpAnyZ_done (by kernel_rfl) ?_ _
  refine NoPanic.normal ?_
  (try simp only [Exit.then])
  go_wp2
  go_ret
  exact ⟨by rw [HPH.out];first | done | rfl,(HA3.out.trans ((hD.go hbq).go hbp)).out HBW.out⟩
 | true =>
 rw [hsame] at HPH
 rw [hsame] at HSM
 clear hsame
 rw [Bool.true_and] at HPH
 have HLOOP:∀ (a:Act) (wy:World),True:=fun _ _=>trivial
 clear HLOOP
 cases m with
 | zero =>
  have hm0:decide (0=0∨(insOf bl j (0 - 1)).op=22)=true:=decide_eq_true (.inl rfl)
  rw [hm0,Bool.true_and] at HPH
  clear hm0
  refine wp_region_noPanic ?_
  refine wp_region_Z (S:=(fun w'=>Aft W3 w')) (Z:=[]) (by kernel_rfl) ?_ (fun hHeld=>?_)
  ·(try dsimp only)
   (exact hD)
  refine zP 0 rfl ?_
  refine zT 1 rfl ?_
  refine zP 2 rfl ?_
  refine zT 3 rfl ?_
  refine zP 4 rfl ?_
  refine zP 5 rfl ?_
  refine zP 6 rfl ?_
  refine zT 7 rfl ?_
  refine zP 8 rfl ?_
  refine zC 9 rfl (fun K hK=>?_)
  go_simp
  (with_reducible refine (HAH3.out _ hD).mono ?_)
  rintro e wq ⟨uq,rfl,huq,hbq⟩
  refine hK.out _ _ ?_ (fun hHeld=>?_)
  ·(try dsimp only)
   (exact hD.go hbq)
  clear hK K
  refine zC 10 rfl (fun K hK=>?_)
  go_simp
  (with_reducible refine (HSM.out _ _ (hD.go hbq) huq).mono ?_)
  rintro e wp ⟨rfl,hbp⟩
  refine hK.out _ _ ?_ (fun hHeld=>?_)
  ·(try dsimp only)
   (exact (hD.go hbq).go hbp)
  clear hK K
  refine zC 11 rfl (fun K hK=>?_)
  go_simp
  refine hK.out _ _ ?_ (fun hHeld=>?_)
  ·(try dsimp only)
   (exact (hD.go hbq).go hbp)
  clear hK K
  refine zP 12 rfl ?_
  refine zP 13 rfl ?_
  refine zP 14 rfl ?_
  refine zP 15 rfl ?_
  refine zU 16 rfl ?_
  refine zU 17 rfl ?_
  refine zU 18 rfl ?_
  refine zU 19 rfl ?_
  refine zU 20 rfl ?_
  refine zU 21 rfl ?_
  refine zU 22 rfl ?_
  refine zU 23 rfl ?_
  refine zC 24 rfl (fun K hK=>?_)
  go_simp
  refine hK.out _ _ ?_ (fun hHeld=>?_)
  ·(try dsimp only)
   (exact (hD.go hbq).go hbp)
  clear hK K
  refine zC 25 rfl (fun K hK=>?_)
  go_simp
  refine hK.out _ _ ?_ (fun hHeld=>?_)
  ·(try dsimp only)
   (exact (hD.go hbq).go hbp)
  clear hK K
  try simp only [Act.put,List.setIfInBounds_toArray,List.set_cons_zero,List.set_cons_succ]
  refine wpAnyZ_done (by kernel_rfl) ?_ _
  refine NoPanic.normal ?_
  (try simp only [Exit.then])
  have h4:=(hD.go hbq).go hbp
  obtain ⟨W4,hW4⟩:∃ W4:World,W4=wp:=⟨_,rfl⟩
  rw [← hW4] at h4 ⊢
  clear hW4 huq hbq hbp
  have HAL:=hid (fun (h:AllG (fun q:Int × Int=>isSetL par bl q.2 q.1 (insAt bl q.1.toNat).length) (yfr.zip yar) (yfr.zip yar).length)=>allG_all h)
  have HNO:=hid (fun n u hu hn=>allG_not (q:=fun q:Int × Int=>isSetL par bl q.2 q.1 (insAt bl q.1.toNat).length) (l:=yfr.zip yar) (n:=n) (u:=u) hu hn)
  have hzl:(yfr.zip yar).length=yfr.length:=by rw [List.length_zip];have:=HFL.out;omega
  rw [hzl] at HAL
  generalize (yfr.zip yar).all (fun q=>isSetL par bl q.2 q.1 (insAt bl q.1.toNat).length)=al at *
  clear hD HSM HAH3 HPV hzl
  go_wp2_with fail
  go_loopg [11] yfr.length (fun gk iv wr=>∃ n:Nat,n+gk=yfr.length∧iv=.int .i64 n∧AllG (fun q:Int × Int=>isSetL par bl q.2 q.1 (insAt bl q.1.toNat).length) (yfr.zip yar) n∧Aft W3 wr)
  case atStart=>exact ⟨0,by omega,rfl,fun i u hi=>absurd hi (by omega),h4⟩
  case round =>
   obtain ⟨n,hn,rfl,hall,hA⟩:=hrel
   have HN:=hid hn
   have HALL:=hid hall
   have hA3:=HA3.out.trans hA
   clear hn hall h4
   by_cases hnt:n < yfr.length
   ·have HNT:=hid hnt
    have hna:n < yar.length:=by have:=HFL.out;omega
    obtain ⟨c,hc⟩:=some_at hnt
    obtain ⟨u,hu⟩:=some_at hna
    obtain ⟨q2,o2,rfl,cf⟩:=int_at (HJF.out wr hA3) hc
    obtain ⟨q3,o3,rfl,ca⟩:=int_at (HJA.out wr hA3) hu
    have hcb:=HB.out c (List.mem_of_getElem? hc)
    obtain ⟨b,rfl⟩:∃ b:Nat,c=b:=⟨c.toNat,by omega⟩
    have hbl2:b < bl.length:=by omega
    have hbi:(b:Int) < (bl.length:Int):=by omega
    obtain ⟨gb2,goff2,xa2,xc2,he2,y0,_⟩:=HBI.out b hbl2
    cases he2
    have hD:=(Aft.refl wr).drew
    have HCC:=hid (fun wx (h:Aft wr wx)=>HC.out u b (insAt bl b).length (HR.out u (List.mem_of_getElem? hu)) ⟨by omega,by omega⟩ wx (hA3.trans h))
    have hq:∀ t,isSetL par bl u b (insAt bl b).length=t→(fun q:Int × Int=>isSetL par bl q.2 q.1 (insAt bl q.1.toNat).length) ((b:Int),u)=t:=fun t h=>h
    have HNX:=hid (fun (hh:isSetL par bl u b (insAt bl b).length=true)=>allG_next HALL.out (zip_get hc hu) (hq _ hh))
    have HN2:=hid (fun (hh:isSetL par bl u b (insAt bl b).length=false)=>HNO.out n _ (zip_get hc hu) (hq _ hh))
    have hnl:(n:Int) < (yfr.length:Int):=by omega
    have hnal:(n:Int) < (yar.length:Int):=by omega
    have hnb:n≤9223372036854775806:=by have:=HF16.out;omega
    have s0:=fun w' (h:Aft wr w')=>r0 w' (hA.trans h)
    have s1:=fun w' (h:Aft wr w')=>r1 w' (hA.trans h)
    have s2:=fun w' (h:Aft wr w')=>r2 w' (hA.trans h)
    have s5:=fun w' (h:Aft wr w')=>c5 w' (hA.trans h)
    have s6:=fun w' (h:Aft wr w')=>c6 w' (hA.trans h)
    have t0:=fun w' (h:Aft wr w')=>y0 w' (hA3.trans h)
    have t1:=later cf
    have t2:=later ca
    have HAW:=hid hA
    have hrr:=Aft.refl wr
    clear hc hu cf ca y0 r0 r1 r2 rb c5 c6 hA hA3 HC hq HNO HAL
    generalize isSetL par bl u b (insAt bl b).length=qu at *
    generalize (insAt bl b).length=xl at *
    go_wp2_with fail
    go_region_held3 (fun w'=>Aft wr w') (first | exact hD.go hb3 | exact hD)
     ((go_at_call 177;refine (HCC.out _ hD).mono ?_;rintro e w3 ⟨rfl,hb3⟩))
    all_goals
     have h3:=HAW.out.trans (hD.go hb3)
     clear HCC hb3 s0 s1 s2 s5 s6 t0 t1 t2 hD hrr
     cases hqu:qu with
     | true =>
      have HX:=hid (HNX.out hqu)
      clear hqu
      go_wp2
      go_roundg (gk - 1)
      case measure=>have:=HN.out;have:=HNT.out;omega
      case rel=>exact ⟨n+1,by have:=HN.out;have:=HNT.out;omega,by go_num,HX.out,h3⟩
     | false =>
      have HX:=hid (HN2.out hqu)
      clear hqu
      go_wp2
      go_ret
      exact ⟨by rw [HPH.out,HX.out];first | done | rfl,(HA3.out.trans h3).out HBW.out⟩
   ·obtain rfl:n=yfr.length:=by have:=HN.out;omega
    have HX:=hid (HAL.out HALL.out)
    clear HALL hnt HAL HNO HC
    go_wp2
    go_ret
    exact ⟨by rw [HPH.out,HX.out];first | done | rfl,hA3.out HBW.out⟩
 | succ m1 =>
  obtain ⟨o,_,ho,cp⟩:=HPV.out m1 rfl
  have hsub:IntKind.i64.wrap (((m1+1:Nat):Int) - 1)=(m1:Int):=by rw [IntWalk.i64_in _ (by omega)];omega
  have hsub2:IntKind.i64.wrap (m1:Int)=(m1:Int):=by rw [IntWalk.i64_in _ (by omega)]
  have hm1i:(m1:Int) < ((insAt bl j).length:Int):=by omega
  have hpos:(0:Int) < ((m1+1:Nat):Int):=by omega
  have r3:=fun w' (h:Aft W3 w')=>cp w' (HA3.out.trans h)
  rw [Nat.add_sub_cancel,ho] at HPH
  clear cp
  by_cases hoo:o=22
  ·have eo:(o != 22)=false:=by simp [hoo]
   have hm0:decide (m1+1=0∨o=22)=true:=decide_eq_true (.inr hoo)
   rw [hm0,Bool.true_and] at HPH
   clear hm0 hoo ho
   refine wp_region_noPanic ?_
   refine wp_region_Z (S:=(fun w'=>Aft W3 w')) (Z:=[]) (by kernel_rfl) ?_ (fun hHeld=>?_)
   ·(try dsimp only)
    (exact hD)
   refine zP 0 rfl ?_
   refine zT 1 rfl ?_
   refine zP 2 rfl ?_
   refine zT 3 rfl ?_
   refine zP 4 rfl ?_
   refine zP 5 rfl ?_
   refine zP 6 rfl ?_
   refine zT 7 rfl ?_
   refine zP 8 rfl ?_
   refine zC 9 rfl (fun K hK=>?_)
   go_simp
   (with_reducible refine (HAH3.out _ hD).mono ?_)
   rintro e wq ⟨uq,rfl,huq,hbq⟩
   refine hK.out _ _ ?_ (fun hHeld=>?_)
   ·(try dsimp only)
    (exact hD.go hbq)
   clear hK K
   refine zC 10 rfl (fun K hK=>?_)
   go_simp
   (with_reducible refine (HSM.out _ _ (hD.go hbq) huq).mono ?_)
   rintro e wp ⟨rfl,hbp⟩
   refine hK.out _ _ ?_ (fun hHeld=>?_)
   ·(try dsimp only)
    (exact (hD.go hbq).go hbp)
   clear hK K
   refine zC 11 rfl (fun K hK=>?_)
   go_simp
   refine hK.out _ _ ?_ (fun hHeld=>?_)
   ·(try dsimp only)
    (exact (hD.go hbq).go hbp)
   clear hK K
   refine zP 12 rfl ?_
   refine zP 13 rfl ?_
   refine zP 14 rfl ?_
   refine zP 15 rfl ?_
   refine zP 16 rfl ?_
   refine zT 17 rfl ?_
   refine zP 18 rfl ?_
   refine zP 19 rfl ?_
   refine zP 20 rfl ?_
   refine zP 21 rfl ?_
   refine zT 22 rfl ?_
   refine zP 23 rfl ?_
   refine zC 24 rfl (fun K hK=>?_)
   go_simp
   refine hK.out _ _ ?_ (fun hHeld=>?_)
   ·(try dsimp only)
    (exact (hD.go hbq).go hbp)
   clear hK K
   refine zC 25 rfl (fun K hK=>?_)
   go_simp
   refine hK.out _ _ ?_ (fun hHeld=>?_)
   ·(try dsimp only)
    (exact (hD.go hbq).go hbp)
   clear hK K
   try simp only [Act.put,List.setIfInBounds_toArray,List.set_cons_zero,List.set_cons_succ]
   refine wpAnyZ_done (by kernel_rfl) ?_ _
   refine NoPanic.normal ?_
   (try simp only [Exit.then])
   have h4:=(hD.go hbq).go hbp
   obtain ⟨W4,hW4⟩:∃ W4:World,W4=wp:=⟨_,rfl⟩
   rw [← hW4] at h4 ⊢
   clear hW4 huq hbq hbp
   have HAL:=hid (fun (h:AllG (fun q:Int × Int=>isSetL par bl q.2 q.1 (insAt bl q.1.toNat).length) (yfr.zip yar) (yfr.zip yar).length)=>allG_all h)
   have HNO:=hid (fun n u hu hn=>allG_not (q:=fun q:Int × Int=>isSetL par bl q.2 q.1 (insAt bl q.1.toNat).length) (l:=yfr.zip yar) (n:=n) (u:=u) hu hn)
   have hzl:(yfr.zip yar).length=yfr.length:=by rw [List.length_zip];have:=HFL.out;omega
   rw [hzl] at HAL
   generalize (yfr.zip yar).all (fun q=>isSetL par bl q.2 q.1 (insAt bl q.1.toNat).length)=al at *
   clear r3 hD HSM HAH3 HPV hzl
   go_wp2_with fail
   go_loopg [11] yfr.length (fun gk iv wr=>∃ n:Nat,n+gk=yfr.length∧iv=.int .i64 n∧AllG (fun q:Int × Int=>isSetL par bl q.2 q.1 (insAt bl q.1.toNat).length) (yfr.zip yar) n∧Aft W3 wr)
   case atStart=>exact ⟨0,by omega,rfl,fun i u hi=>absurd hi (by omega),h4⟩
   case round =>
    obtain ⟨n,hn,rfl,hall,hA⟩:=hrel
    have HN:=hid hn
    have HALL:=hid hall
    have hA3:=HA3.out.trans hA
    clear hn hall h4
    by_cases hnt:n < yfr.length
    ·have HNT:=hid hnt
     have hna:n < yar.length:=by have:=HFL.out;omega
     obtain ⟨c,hc⟩:=some_at hnt
     obtain ⟨u,hu⟩:=some_at hna
     obtain ⟨q2,o2,rfl,cf⟩:=int_at (HJF.out wr hA3) hc
     obtain ⟨q3,o3,rfl,ca⟩:=int_at (HJA.out wr hA3) hu
     have hcb:=HB.out c (List.mem_of_getElem? hc)
     obtain ⟨b,rfl⟩:∃ b:Nat,c=b:=⟨c.toNat,by omega⟩
     have hbl2:b < bl.length:=by omega
     have hbi:(b:Int) < (bl.length:Int):=by omega
     obtain ⟨gb2,goff2,xa2,xc2,he2,y0,_⟩:=HBI.out b hbl2
     cases he2
     have hD:=(Aft.refl wr).drew
     have HCC:=hid (fun wx (h:Aft wr wx)=>HC.out u b (insAt bl b).length (HR.out u (List.mem_of_getElem? hu)) ⟨by omega,by omega⟩ wx (hA3.trans h))
     have hq:∀ t,isSetL par bl u b (insAt bl b).length=t→(fun q:Int × Int=>isSetL par bl q.2 q.1 (insAt bl q.1.toNat).length) ((b:Int),u)=t:=fun t h=>h
     have HNX:=hid (fun (hh:isSetL par bl u b (insAt bl b).length=true)=>allG_next HALL.out (zip_get hc hu) (hq _ hh))
     have HN2:=hid (fun (hh:isSetL par bl u b (insAt bl b).length=false)=>HNO.out n _ (zip_get hc hu) (hq _ hh))
     have hnl:(n:Int) < (yfr.length:Int):=by omega
     have hnal:(n:Int) < (yar.length:Int):=by omega
     have hnb:n≤9223372036854775806:=by have:=HF16.out;omega
     have s0:=fun w' (h:Aft wr w')=>r0 w' (hA.trans h)
     have s1:=fun w' (h:Aft wr w')=>r1 w' (hA.trans h)
     have s2:=fun w' (h:Aft wr w')=>r2 w' (hA.trans h)
     have s5:=fun w' (h:Aft wr w')=>c5 w' (hA.trans h)
     have s6:=fun w' (h:Aft wr w')=>c6 w' (hA.trans h)
     have t0:=fun w' (h:Aft wr w')=>y0 w' (hA3.trans h)
     have t1:=later cf
     have t2:=later ca
     have HAW:=hid hA
     have hrr:=Aft.refl wr
     clear hc hu cf ca y0 r0 r1 r2 rb c5 c6 hA hA3 HC hq HNO HAL
     generalize isSetL par bl u b (insAt bl b).length=qu at *
     generalize (insAt bl b).length=xl at *
     go_wp2_with fail
     go_region_held3 (fun w'=>Aft wr w') (first | exact hD.go hb3 | exact hD)
      ((go_at_call 177;refine (HCC.out _ hD).mono ?_;rintro e w3 ⟨rfl,hb3⟩))
     all_goals
      have h3:=HAW.out.trans (hD.go hb3)
      clear HCC hb3 s0 s1 s2 s5 s6 t0 t1 t2 hD hrr
      cases hqu:qu with
      | true =>
       have HX:=hid (HNX.out hqu)
       clear hqu
       go_wp2
       go_roundg (gk - 1)
       case measure=>have:=HN.out;have:=HNT.out;omega
       case rel=>exact ⟨n+1,by have:=HN.out;have:=HNT.out;omega,by go_num,HX.out,h3⟩
      | false =>
       have HX:=hid (HN2.out hqu)
       clear hqu
       go_wp2
       go_ret
       exact ⟨by rw [HPH.out,HX.out];first | done | rfl,(HA3.out.trans h3).out HBW.out⟩
    ·obtain rfl:n=yfr.length:=by have:=HN.out;omega
     have HX:=hid (HAL.out HALL.out)
     clear HALL hnt HAL HNO HC
     go_wp2
     go_ret
     exact ⟨by rw [HPH.out,HX.out];first | done | rfl,hA3.out HBW.out⟩
  ·have eo:(o != 22)=true:=by simpa using hoo
   have hm0:decide (m1+1=0∨o=22)=false:=decide_eq_false (by omega)
   rw [hm0,Bool.false_and] at HPH
   clear hm0 hoo ho
   refine wp_region_noPanic ?_
   refine wp_region_Z (S:=(fun w'=>Aft W3 w')) (Z:=[]) (by kernel_rfl) ?_ (fun hHeld=>?_)
   ·(try dsimp only)
    (exact hD)
   refine zP 0 rfl ?_
   refine zT 1 rfl ?_
   refine zP 2 rfl ?_
   refine zT 3 rfl ?_
   refine zP 4 rfl ?_
   refine zP 5 rfl ?_
   refine zP 6 rfl ?_
   refine zT 7 rfl ?_
   refine zP 8 rfl ?_
   refine zC 9 rfl (fun K hK=>?_)
   go_simp
   (with_reducible refine (HAH3.out _ hD).mono ?_)
   rintro e wq ⟨uq,rfl,huq,hbq⟩
   refine hK.out _ _ ?_ (fun hHeld=>?_)
   ·(try dsimp only)
    (exact hD.go hbq)
   clear hK K
   refine zC 10 rfl (fun K hK=>?_)
   go_simp
   (with_reducible refine (HSM.out _ _ (hD.go hbq) huq).mono ?_)
   rintro e wp ⟨rfl,hbp⟩
   refine hK.out _ _ ?_ (fun hHeld=>?_)
   ·(try dsimp only)
    (exact (hD.go hbq).go hbp)
   clear hK K
   refine zC 11 rfl (fun K hK=>?_)
   go_simp
   refine hK.out _ _ ?_ (fun hHeld=>?_)
   ·(try dsimp only)
    (exact (hD.go hbq).go hbp)
   clear hK K
   refine zP 12 rfl ?_
   refine zP 13 rfl ?_
   refine zP 14 rfl ?_
   refine zP 15 rfl ?_
   refine zP 16 rfl ?_
   refine zT 17 rfl ?_
   refine zP 18 rfl ?_
   refine zP 19 rfl ?_
   refine zP 20 rfl ?_
   refine zP 21 rfl ?_
   refine zT 22 rfl ?_
   refine zP 23 rfl ?_
   refine zC 24 rfl (fun K hK=>?_)
   go_simp
   refine hK.out _ _ ?_ (fun hHeld=>?_)
   ·(try dsimp only)
    (exact (hD.go hbq).go hbp)
   clear hK K
   refine zC 25 rfl (fun K hK=>?_)
   go_simp
   refine hK.out _ _ ?_ (fun hHeld=>?_)
   ·(try dsimp only)
    (exact (hD.go hbq).go hbp)
   clear hK K
   try simp only [Act.put,List.setIfInBounds_toArray,List.set_cons_zero,List.set_cons_succ]
   refine wpAnyZ_done (by kernel_rfl) ?_ _
   refine NoPanic.normal ?_
   (try simp only [Exit.then])
   go_wp2
   go_ret
   exact ⟨by rw [HPH.out];first | done | rfl,(HA3.out.trans ((hD.go hbq).go hbp)).out HBW.out⟩
end Go.Proofs.YtpejpnffcepdlaaGreatDoor.SwPh
namespace Go.Proofs.YtpejpnffcepdlaaGreatDoor.SwU
open Go.RowKit Go.Lib RwO SetP IntO TyM TyP TyB TyC TyRA TyRE ShM ShP ShA ShB ShC ShE ShRA ShH ShI ShJ ShK ShL ShRG ShRH ShRI ShBP Aft Fresh FwM FwC FwP FwQ FwR FwO FvA FvB FdM FdQ FdE LvM SvQ SvP SwA SwT IntG BlkG

theorem types_calls (p:Px) (k:Nat) (x:Fx) (l:List Int) (v vl:Value) (w:World) (hp:PrAt w v p) (hs:Small p) (hok:POk p) (hx:Has1 p k k x) (hr:∀ r∈l,0≤r∧r < ((parOf p.types x.sig+manyB x.blocks:Nat):Int)) (hl:IntsAt w vl l) (hll:l.length≤1000) :
  Calls Tryz.prog 126 #[v,.int .i64 (k:Int),vl] w (fun e w'=>∃ u,e=.returned (.tuple #[u,.bool (typesB p.types x l)])∧IntsAt w' u (typesL p.types x l)∧Below w.heap.size w w'):=by
 have hp0:=hp
 obtain ⟨vt,vf,rfl,ht,hf⟩:=hp
 obtain ⟨W,hW⟩:∃ W,W=w.alloc (.cells #[vt,vf] 27):=⟨_,rfl⟩
 have hbW:Below w.heap.size w W:=by rw [hW];exact alloc_below _ _
 have k1:W.heap[w.heap.size]?=some (.cells #[vt,vf] 27 (0,0)):=by rw [hW];exact alloc_new _ _
 have HC:=hid (fun (r:Int) (h:0≤r∧r < ((parOf p.types x.sig+manyB x.blocks:Nat):Int)) (wx:World) (ha:Aft W wx)=>type_calls p k x r _ wx ((hp0.below hbW).below ha.below) hs hok hx h.1 h.2)
 have HL:=hid (hl.below hbW)
 obtain ⟨ta,tc,rfl⟩:=ht.slice
 obtain ⟨fa,fc,rfl,_⟩:=hf.slice
 obtain ⟨la,lc,rfl,_⟩:=ints_slice hl
 have l0:∀ w',Aft W w'→w'.cell? ⟨w.heap.size,0,none⟩=some (.slice ta p.types.length tc):=later_cells k1 0 _ rfl
 have l1:∀ w',Aft W w'→w'.cell? ⟨w.heap.size,1,none⟩=some (.slice fa p.funcs.length fc):=later_cells k1 1 _ rfl
 have HBW:=hid hbW
 have HW:=hid hW
 have HR:=hid hr
 have HLL:=hid hll
 clear ht hf hl hbW hW k1 hp0 hs hok hx
 have HL1:Hid (typesB p.types x l=true→typesL p.types x l=l.map (typeI p.types x)):=fun h=>by unfold typesL;rw [if_pos h]
 have HL2:Hid (typesB p.types x l=false→typesL p.types x l=[]):=fun h=>by unfold typesL;rw [if_neg (by rw [h];simp)]
 have HAL:Hid (AllN (fun r=>decide (0≤typeI p.types x r)) l l.length→typesB p.types x l=true):=fun h=>allN_all h
 have HNO:Hid (∀ n u,l[n]?=some u→typeI p.types x u < 0→typesB p.types x l=false):=fun n u hu hn=>all_not hu (decide_eq_false (by omega))
 clear hr hll
 generalize typesL p.types x l=tl at *
 generalize typesB p.types x l=tb at *
 generalize typeI p.types x=q at *
 generalize p.types.length=n1 at *
 generalize p.funcs.length=n2 at *
 go_enter Tryz.func126,Tryz.ntmps126
 go_wp2_with fail
 rw [← HW.out]
 go_loopg [8,9] l.length (fun gk uv iv wr=>∃ n:Nat,n+gk=l.length∧iv=.int .i64 n∧AllN (fun r=>decide (0≤q r)) l n∧wr.ownsRow W.heap.size 3 1 uv n (intVals (tyTake q l n))∧Below W.heap.size W wr)
 case atStart=>exact ⟨0,by omega,rfl,fun i u hi=>absurd hi (by omega),World.ownsRow_nil _ _ _ _,Below.refl _ _⟩
 case round =>
  obtain ⟨n,hn,rfl,hall,hown,hbe⟩:=hrel
  have HN:=hid hn
  have HALL:=hid hall
  have HOWN:=hid hown
  have HBE:=hid hbe
  have hA:Aft W wr:=hbe
  obtain ⟨ua,un,rfl⟩:=own_slice hown
  clear hn hall hown hbe
  by_cases hnt:n < l.length
  ·have HNT:=hid hnt
   obtain ⟨u,hu⟩:=some_at hnt
   obtain ⟨b2,o2,rfl,c2⟩:=int_at (HL.out.below hA.below) hu
   have hDr:=(Aft.refl wr).drew
   have HCC:=hid (fun wx (ha:Aft wr wx)=>HC.out u (HR.out u (List.mem_of_getElem? hu)) wx (hA.trans ha))
   have HNX:=hid (fun (hh:0≤q u)=>allN_next HALL.out hu (decide_eq_true hh))
   have HN2:=hid (fun hh=>HNO.out n u hu hh)
   have HTK:=hid (tyTake_next (q:=q) hu)
   have hnl:(n:Int) < (l.length:Int):=by omega
   have hnb:n≤9223372036854775806:=by have:=HLL.out;omega
   have r0:=fun w' (h:Aft wr w')=>l0 w' (hA.trans h)
   have r1:=fun w' (h:Aft wr w')=>l1 w' (hA.trans h)
   have r2:=later c2
   clear hu c2 l0 l1 HC hA
   generalize q u=qu at *
   go_wp2_with fail
   go_region_held3 (fun w'=>Aft wr w') (first | exact hDr.go hb3 | exact hDr)
    ((go_at_call 34;refine (HCC.out _ hDr).mono ?_;rintro e w3 ⟨rfl,hb3⟩))
   all_goals
    have h3:=hDr.go hb3
    have HO3:=hid (ownsRow_below HOWN.out h3.below)
    have HB3:=hid (HBE.out.trans (h3.below.mono HBE.out.size))
    clear HCC hb3 r0 r1 r2 hDr h3 HOWN HBE
    by_cases hq:qu < 0
    ·have HX:=hid (HN2.out hq)
     have HY:=hid (HL2.out HX.out)
     clear HNX HN2 HO3
     go_wp2
     go_ret2
     exact ⟨_,by rw [HX.out];rfl,by rw [HY.out];exact ints_none _,HBW.out.trans (HB3.out.mono HBW.out.size)⟩
    ·have HX:=hid (HNX.out (by omega))
     clear HNX HN2
     have hba:Below w3.heap.size w3 (w3.alloc (.cells #[.int .i64 qu] 3)):=alloc_below _ _
     have HO6:=hid (HO3.out.alloc (.cells #[.int .i64 qu] 3))
     have HI6:=hid (ints_one (w:=w3.alloc (.cells #[.int .i64 qu] 3)) (b:=w3.heap.size) (n:=qu) (cell_new _ _ _ _ rfl) (size_new _ _ _ rfl))
     have HB6:=hid (HB3.out.trans (hba.mono HB3.out.size))
     have hsz:W.heap.size≤(w3.alloc (.cells #[.int .i64 qu] 3)).heap.size:=HB6.out.size
     clear hba HO3 HB3
     go_wp2_with (at_builtin;refine wpList_append_intsN rfl (.tmp 26) (.tmp 28) rfl W.heap.size (.slice ua n un) rfl n (intVals (tyTake q l n)) HO6.out (by have:=HLL.out;have:=HNT.out;omega) (.slice (some ⟨w3.heap.size,0,none⟩) 1 1) [qu] rfl HI6.out (by simp) hsz ?_)
     intro v7 w7 hown7 hgr7 hnr7
     have HB7:=hid (own_grown HB6.out HO6.out hgr7 hsz)
     have HO7:Hid (w7.ownsRow W.heap.size 3 1 v7 (n+1) (intVals (tyTake q l (n+1)))):=by
      show World.ownsRow _ _ _ _ _ _ _
      rw [HTK.out,intVals_append]
      exact hown7
     clear hown7 hgr7 hnr7 HO6 HI6 HB6 hsz
     go_wp2
     go_roundg (gk - 1)
     case measure=>have:=HN.out;have:=HNT.out;omega
     case rel=>exact ⟨n+1,by have:=HN.out;have:=HNT.out;omega,by go_num,HX.out,HO7.out,HB7.out⟩
  ·obtain rfl:n=l.length:=by have:=HN.out;omega
   have HX:=hid (HAL.out HALL.out)
   have HY:=hid (HL1.out HX.out)
   have HI:=hid (intsAt_of_owns HOWN.out (by rw [tyTake_len (Nat.le_refl _)];have:=HLL.out;omega))
   rw [tyTake_all,← HY.out] at HI
   clear HALL hnt HOWN
   generalize l.length=m at *
   go_wp2
   go_ret2
   exact ⟨_,by rw [HX.out];rfl,HI.out,HBW.out.trans (HBE.out.mono HBW.out.size)⟩
end Go.Proofs.YtpejpnffcepdlaaGreatDoor.SwU
