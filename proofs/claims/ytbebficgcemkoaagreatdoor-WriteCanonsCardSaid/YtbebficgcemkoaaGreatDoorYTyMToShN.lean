/- Plain facts on tables of types: which may be, their cells, their parts. Plain facts on programs as data: what an instruction has, which shapes may be, registers and places. What may be, by the tables, is what may be by the document's words. -/
import Derived.Lib.Hide
set_option maxRecDepth 100000
set_option maxHeartbeats 16000000
namespace Go.Proofs.YtbebficgcemkoaaGreatDoor.TyM

structure Ty where
 kind:Int
 elem:Int
 many:Int
 parts:List Int

theorem ty_eq {a b:Ty} : a=b↔a.kind=b.kind∧a.elem=b.elem∧a.many=b.many∧a.parts=b.parts:=by
 cases a;cases b;simp
instance:DecidableEq Ty:=fun _ _=>decidable_of_iff _ ty_eq.symm
instance:Inhabited Ty:=⟨⟨0,0,0,[]⟩⟩

def scalarK (k:Int):Bool:=decide (k=1∨k=2∨k=3)
def lowB (m:Int) (l:List Int):Bool:=l.all fun n=>decide (0≤n∧n < m)
theorem lowB_iff {m:Int} {l:List Int} : lowB m l=true↔∀ n∈l,0≤n∧n < m:=by simp [lowB]
def plainB (t:List Ty) (n:Int):Bool:=decide (0≤n) && (match t[n.toNat]? with | some x=>scalarK x.kind | none=>false)
def plainsB (t:List Ty) (l:List Int):Bool:=l.all (plainB t)
theorem plainB_iff {t:List Ty} {n:Int} : plainB t n=true↔0≤n∧∃ x,t[n.toNat]?=some x∧scalarK x.kind=true:=by
 unfold plainB
 cases t[n.toNat]?<;>simp
theorem plainB_at {t:List Ty} {k:Nat} {x:Ty} (h:t[k]?=some x):plainB t (k:Int)=scalarK x.kind:=by
 unfold plainB;simp [h]
theorem plainB_low {t:List Ty} {n:Int} (h:plainB t n=true):0≤n∧n < t.length:=by
 obtain ⟨h0,x,hx,_⟩:=plainB_iff.1 h
 have:=(List.getElem?_eq_some_iff.1 hx).1
 omega
theorem plainsB_low {t:List Ty} {l:List Int} (h:plainsB t l=true):lowB t.length l=true :=
 lowB_iff.2 fun n hn=>plainB_low (List.all_eq_true.1 h n hn)

def mayX (t:List Ty) (k:Nat) (x:Ty):Bool :=
 if x.kind=1 then decide (x.elem=0) && (decide (x.many=0) && decide (x.parts.length=0))
 else if x.kind=2 then lowB t.length [x.elem] && (decide (x.many=0) && decide (x.parts.length=0))
 else if x.kind=3 then decide (x.parts.length≤4) && (plainB t x.elem && (plainsB t x.parts && decide (x.many=0)))
 else if x.kind=4 then decide (1≤x.parts.length) && (decide (x.parts.length≤8) && (lowB k x.parts && (decide (x.elem=0) && decide (x.many=0))))
 else if x.kind=5 then decide (1≤x.many) && (decide (x.many≤16) && (lowB k [x.elem] && decide (x.parts.length=0)))
 else false
def mayB (t:List Ty) (k:Nat):Bool:=match t[k]? with | some x=>mayX t k x | none=>false
theorem mayB_at {t:List Ty} {k:Nat} {x:Ty} (h:t[k]?=some x):mayB t k=mayX t k x:=by unfold mayB;rw [h]

def partsOf (x:Ty):List Int:=if x.kind=4 then x.parts else if x.kind=5 then List.replicate x.many.toNat x.elem else []
theorem partsOf_struct {x:Ty} (h:x.kind=4):partsOf x=x.parts:=by unfold partsOf;rw [if_pos h]
theorem partsOf_array {x:Ty} (h:x.kind=5):partsOf x=List.replicate x.many.toNat x.elem:=by unfold partsOf;rw [if_neg (by omega),if_pos h]
theorem partsOf_other {x:Ty} (h4:x.kind≠4) (h5:x.kind≠5):partsOf x=[]:=by unfold partsOf;rw [if_neg h4,if_neg h5]
theorem partsOf_scalar {x:Ty} (h:scalarK x.kind=true):partsOf x=[]:=by
 unfold scalarK at h
 have:=of_decide_eq_true h
 exact partsOf_other (by omega) (by omega)

theorem mayX_kind {t:List Ty} {k:Nat} {x:Ty} (h:mayX t k x=true):scalarK x.kind=true∨x.kind=4∨x.kind=5:=by
 unfold mayX at h
 unfold scalarK
 by_cases h1:x.kind=1
 ·left;simp [h1]
 by_cases h2:x.kind=2
 ·left;simp [h2]
 by_cases h3:x.kind=3
 ·left;simp [h3]
 by_cases h4:x.kind=4
 ·right;left;exact h4
 by_cases h5:x.kind=5
 ·right;right;exact h5
 simp [h1,h2,h3,h4,h5] at h
theorem mayX_struct {t:List Ty} {k:Nat} {x:Ty} (h:mayX t k x=true) (h4:x.kind=4):1≤x.parts.length∧x.parts.length≤8∧∀ p∈x.parts,0≤p∧p < k:=by
 unfold mayX at h
 simp [h4] at h
 exact ⟨h.1,h.2.1,lowB_iff.1 h.2.2.1⟩
theorem mayX_array {t:List Ty} {k:Nat} {x:Ty} (h:mayX t k x=true) (h5:x.kind=5):1≤x.many∧x.many≤16∧0≤x.elem∧x.elem < k:=by
 unfold mayX at h
 simp [h5] at h
 obtain ⟨a,b⟩:=lowB_iff.1 h.2.2.1 x.elem (by simp)
 exact ⟨h.1,h.2.1,a,b⟩
theorem mayX_low {t:List Ty} {k:Nat} {x:Ty} (h:mayX t k x=true):∀ p∈partsOf x,0≤p∧p < k:=by
 intro p hp
 by_cases h4:x.kind=4
 ·rw [partsOf_struct h4] at hp;exact (mayX_struct h h4).2.2 p hp
 by_cases h5:x.kind=5
 ·rw [partsOf_array h5] at hp
  obtain rfl:=(List.mem_replicate.1 hp).2
  exact (mayX_array h h5).2.2
 rw [partsOf_other h4 h5] at hp;cases hp
theorem mayX_parts {t:List Ty} {k:Nat} {x:Ty} (h:mayX t k x=true):(partsOf x).length≤16:=by
 by_cases h4:x.kind=4
 ·rw [partsOf_struct h4];have:=(mayX_struct h h4).2.1;omega
 by_cases h5:x.kind=5
 ·rw [partsOf_array h5,List.length_replicate];have:=(mayX_array h h5).2.1;omega
 rw [partsOf_other h4 h5];simp

def cellsOf (t:List Ty) (k:Nat):List Int :=
 match t[k]? with
 | none=>[(k:Int)]
 | some x=>if x.kind=4∨x.kind=5 then (partsOf x).flatMap fun p=>if _h:p.toNat < k then cellsOf t p.toNat else [] else [(k:Int)]
 termination_by k
def cellsAll (t:List Ty) (l:List Int):List Int:=l.flatMap fun p=>cellsOf t p.toNat
theorem cellsAll_nil (t:List Ty):cellsAll t []=[]:=rfl
theorem cellsAll_cons (t:List Ty) (p:Int) (l:List Int):cellsAll t (p :: l)=cellsOf t p.toNat++cellsAll t l:=by simp [cellsAll]
theorem cellsAll_append (t:List Ty) (a b:List Int):cellsAll t (a++b)=cellsAll t a++cellsAll t b:=by simp [cellsAll]
theorem cellsAll_take (t:List Ty) {l:List Int} {k:Nat} (h:k < l.length):cellsAll t (l.take (k+1))=cellsAll t (l.take k)++cellsOf t l[k].toNat:=by
 rw [List.take_succ_eq_append_getElem h,cellsAll_append,cellsAll_cons,cellsAll_nil,List.append_nil]
theorem cellsOf_scalar {t:List Ty} {k:Nat} {x:Ty} (h:t[k]?=some x) (hs:scalarK x.kind=true):cellsOf t k=[(k:Int)]:=by
 unfold scalarK at hs
 have:=of_decide_eq_true hs
 rw [cellsOf,h]
 exact if_neg (by omega)
theorem cellsOf_parts {t:List Ty} {k:Nat} {x:Ty} (h:t[k]?=some x) (hk:x.kind=4∨x.kind=5) (hp:∀ p∈partsOf x,0≤p∧p < k):cellsOf t k=cellsAll t (partsOf x):=by
 rw [cellsOf,h]
 show ite _ _ _=_
 rw [if_pos hk]
 unfold cellsAll
 rw [List.flatMap_def,List.flatMap_def]
 congr 1
 refine List.map_congr_left fun p hm=>?_
 have:=hp p hm
 rw [dif_pos (by omega)]

def goodB (t:List Ty) (k:Nat):Bool:=mayB t k && decide ((cellsOf t k).length≤32)
def Lows (t:List Ty) (k:Nat):Prop:=∀ j,j < k→goodB t j=true
theorem goodB_iff {t:List Ty} {k:Nat} : goodB t k=true↔∃ x,t[k]?=some x∧mayX t k x=true∧(cellsOf t k).length≤32:=by
 unfold goodB mayB
 cases t[k]?<;>simp
theorem Lows.mono {t:List Ty} {k n:Nat} (h:Lows t n) (hk:k≤n):Lows t k:=fun j hj=>h j (by omega)
def chkT (t:List Ty):Int:=if 16 < t.length then 4 else if (List.range t.length).all (goodB t) then 0 else 30
theorem chkT_many {t:List Ty} (h:16 < t.length):chkT t=4:=by unfold chkT;rw [if_pos h]
theorem chkT_ok {t:List Ty} (h:t.length≤16) (hg:Lows t t.length):chkT t=0:=by
 unfold chkT
 rw [if_neg (by omega),if_pos]
 simp
 exact fun k hk=>hg k hk
theorem chkT_bad {t:List Ty} {k:Nat} (h:t.length≤16) (hk:k < t.length) (hg:goodB t k=false):chkT t=30:=by
 unfold chkT
 rw [if_neg (by omega),if_neg]
 intro hh
 have:=List.all_eq_true.1 hh k (by simpa using hk)
 rw [hg] at this;cases this
theorem cellsAll_length (t:List Ty) (m:Nat):∀ (l:List Int),(∀ p∈l,(cellsOf t p.toNat).length≤m)→(cellsAll t l).length≤l.length * m
 | [],_=>by simp [cellsAll]
 | p :: l,h=>by
  have:=cellsAll_length t m l fun q hq=>h q (by simp [hq])
  have:=h p (by simp)
  rw [cellsAll_cons,List.length_append,List.length_cons,Nat.succ_mul]
  omega
theorem lows_cells {t:List Ty} {k:Nat} {l:List Int} (h:Lows t k) (hl:∀ p∈l,0≤p∧p < k):(cellsAll t l).length≤l.length * 32 :=
 cellsAll_length t 32 l fun p hp=>by
  have:=hl p hp
  obtain ⟨_,_,_,h3⟩:=goodB_iff.1 (h p.toNat (by omega))
  exact h3

end Go.Proofs.YtbebficgcemkoaaGreatDoor.TyM
namespace Go.Proofs.YtbebficgcemkoaaGreatDoor.ShM
open TyM

structure Ix where
 op:Int
 typ:Int
 a:Int
 b:Int
 n:Int
 args:List Int
 frm:List Int
structure Ex where
 kind:Int
 a:Int
 to:Int
 els:Int
structure Bx where
 ins:List Ix
 en:Ex
structure Fx where
 sig:Int
 blocks:List Bx
structure Px where
 types:List Ty
 funcs:List Fx

theorem ix_eq {x y:Ix} : x=y↔x.op=y.op∧x.typ=y.typ∧x.a=y.a∧x.b=y.b∧x.n=y.n∧x.args=y.args∧x.frm=y.frm:=by
 cases x;cases y;simp
instance:DecidableEq Ix:=fun _ _=>decidable_of_iff _ ix_eq.symm
theorem ex_eq {x y:Ex} : x=y↔x.kind=y.kind∧x.a=y.a∧x.to=y.to∧x.els=y.els:=by
 cases x;cases y;simp
instance:DecidableEq Ex:=fun _ _=>decidable_of_iff _ ex_eq.symm
theorem bx_eq {x y:Bx} : x=y↔x.ins=y.ins∧x.en=y.en:=by
 cases x;cases y;simp
instance:DecidableEq Bx:=fun _ _=>decidable_of_iff _ bx_eq.symm
theorem fx_eq {x y:Fx} : x=y↔x.sig=y.sig∧x.blocks=y.blocks:=by
 cases x;cases y;simp
instance:DecidableEq Fx:=fun _ _=>decidable_of_iff _ fx_eq.symm
theorem px_eq {x y:Px} : x=y↔x.types=y.types∧x.funcs=y.funcs:=by
 cases x;cases y;simp
instance:DecidableEq Px:=fun _ _=>decidable_of_iff _ px_eq.symm
instance:Inhabited Ix:=⟨⟨0,0,0,0,0,[],[]⟩⟩
instance:Inhabited Bx:=⟨⟨[],⟨0,0,0,0⟩⟩⟩
instance:Inhabited Fx:=⟨⟨0,[]⟩⟩

/-! what an instruction, and an end, has: the code's tables -/
structure Has where
 typ:Int
 a:Int
 b:Int
 n:Int
 least:Int
 most:Int
 per:Int
theorem has_eq {x y:Has} : x=y↔x.typ=y.typ∧x.a=y.a∧x.b=y.b∧x.n=y.n∧x.least=y.least∧x.most=y.most∧x.per=y.per:=by
 cases x;cases y;simp
instance:DecidableEq Has:=fun _ _=>decidable_of_iff _ has_eq.symm
def has0:Has:=⟨0,0,0,0,0,0,0⟩
def rowsH:List Has :=
 [⟨0,0,0,0,0,0,0⟩,⟨2,0,0,1,0,0,0⟩,⟨2,0,0,0,0,0,0⟩,⟨2,0,0,4,0,0,0⟩,⟨2,3,3,0,0,0,0⟩,⟨2,3,3,0,0,0,0⟩,⟨2,3,3,0,0,0,0⟩,⟨2,3,3,0,0,0,0⟩,
  ⟨2,3,3,0,0,0,0⟩,⟨2,3,3,0,0,0,0⟩,⟨2,3,3,0,0,0,0⟩,⟨2,0,0,0,0,0,0⟩,⟨2,0,0,0,0,0,0⟩,⟨0,3,0,0,0,0,0⟩,⟨2,3,0,6,0,0,0⟩,⟨2,3,3,0,0,0,0⟩,
  ⟨2,3,0,0,0,0,0⟩,⟨0,3,3,0,0,0,0⟩,⟨2,0,0,4,0,4,0⟩,⟨2,3,0,0,0,4,0⟩,⟨2,0,0,0,0,0,0⟩,⟨0,3,0,0,0,0,0⟩,⟨2,0,0,0,1,16,1⟩]
def hasOf (op:Int):Has:=(rowsH[op.toNat]?).getD has0
theorem hasOf_over {op:Int} (h:23≤op):hasOf op=has0:=by
 unfold hasOf
 rw [List.getElem?_eq_none]
 ·rfl
 ·show 23≤_
  omega
structure HasE where
 a:Int
 to:Int
 els:Int
theorem hase_eq {x y:HasE} : x=y↔x.a=y.a∧x.to=y.to∧x.els=y.els:=by
 cases x;cases y;simp
instance:DecidableEq HasE:=fun _ _=>decidable_of_iff _ hase_eq.symm
def hasE0:HasE:=⟨0,0,0⟩
def rowsE:List HasE:=[⟨0,0,0⟩,⟨0,5,0⟩,⟨3,5,5⟩,⟨3,0,0⟩]
def hasEOf (k:Int):HasE:=(rowsE[k.toNat]?).getD hasE0
theorem hasEOf_over {k:Int} (h:4≤k):hasEOf k=hasE0:=by
 unfold hasEOf
 rw [List.getElem?_eq_none]
 ·rfl
 ·show 4≤_
  omega

/-! by the document's words -/
def twoB (op:Int):Bool:=decide ((4≤op∧op≤10)∨op=15∨op=17)
def hasAB (op:Int):Bool:=twoB op || decide (op=13∨op=14∨op=16∨op=19∨op=21)
def argsB (op:Int):Bool:=decide (op=18∨op=19∨op=22)
def answersB (op:Int):Bool:=decide (1≤op∧op≤22∧op≠13∧op≠17∧op≠21)
def usesOf (x:Ix):List Int:=(if hasAB x.op=true then [x.a] else [])++((if twoB x.op=true then [x.b] else [])++(if argsB x.op=true then x.args else []))
theorem op_cases {op:Int} (h0:0≤op):(∃ k:Fin 23,op=(k.val:Int))∨23≤op:=by
 by_cases h:op < 23
 ·exact .inl ⟨⟨op.toNat,by omega⟩,by simp;omega⟩
 ·exact .inr (by omega)
theorem has_tell:∀ k:Fin 23,decide ((hasOf (k.val:Int)).typ=2)=answersB k.val∧decide ((hasOf (k.val:Int)).a=3)=hasAB k.val∧decide ((hasOf (k.val:Int)).b=3)=twoB k.val∧decide (0 < (hasOf (k.val:Int)).most)=argsB k.val:=by decide
theorem has_tells {op:Int} (h0:0≤op):decide ((hasOf op).typ=2)=answersB op∧decide ((hasOf op).a=3)=hasAB op∧decide ((hasOf op).b=3)=twoB op∧decide (0 < (hasOf op).most)=argsB op:=by
 rcases op_cases h0 with ⟨k,rfl⟩ | h
 ·exact has_tell k
 ·rw [hasOf_over h]
  have e1:answersB op=false:=by unfold answersB;simp;omega
  have e2:twoB op=false:=by unfold twoB;simp;omega
  have e3:hasAB op=false:=by unfold hasAB;rw [e2];simp;omega
  have e4:argsB op=false:=by unfold argsB;simp;omega
  rw [e1,e2,e3,e4]
  decide
/-! which may be -/
def limL (nt nr nf nb:Int):List Int:=[1,0,nt,nr,nf,nb,8]
def toldB (L:List Int) (want n:Int):Bool:=decide (want=1) || (decide (0≤n) && decide (n < L.getD want.toNat 0))
def toldV (L:List Int) (want n:Int):Int:=if toldB L want n=true then want else 7
def thereOf (L:List Int) (x:Ix):Has :=
 ⟨toldV L (hasOf x.op).typ x.typ,toldV L (hasOf x.op).a x.a,toldV L (hasOf x.op).b x.b,toldV L (hasOf x.op).n x.n,min (hasOf x.op).least x.args.length,max (hasOf x.op).most x.args.length,(hasOf x.op).per⟩
def mayI (L:List Int) (x:Ix):Bool :=
 if hasOf x.op=has0∨thereOf L x≠hasOf x.op∨(x.frm.length:Int)≠(hasOf x.op).per * x.args.length then false
 else lowB (L.getD 3 0) x.args && lowB (L.getD 5 0) x.frm
def thereE (L:List Int) (x:Ex):HasE:=⟨toldV L (hasEOf x.kind).a x.a,toldV L (hasEOf x.kind).to x.to,toldV L (hasEOf x.kind).els x.els⟩
def mayE (L:List Int) (x:Ex):Bool:=decide (hasEOf x.kind≠hasE0) && decide (thereE L x=hasEOf x.kind)
def mayBl (L:List Int) (b:Bx):Bool:=mayE L b.en && b.ins.all (mayI L)

/-! the same, by the document's words -/
def mayNR (nf:Int) (x:Ix):Bool :=
 if x.op=1 then true else if x.op=3∨x.op=18 then decide (0≤x.n∧x.n < nf) else if x.op=14 then decide (0≤x.n∧x.n < 8) else decide (x.n=0)
def mayIR (nt nr nf nb:Int) (x:Ix):Bool :=
 if x.op < 1∨22 < x.op∨lowB nr (usesOf x)=false∨mayNR nf x=false then false
 else if (hasAB x.op=false∧x.a≠0)∨(twoB x.op=false∧x.b≠0)∨(argsB x.op=false∧0 < x.args.length) then false
 else if (answersB x.op=true∧(x.typ < 0∨nt≤x.typ))∨(answersB x.op=false∧x.typ≠0) then false
 else if x.op=22 then decide (x.frm.length=x.args.length∧1≤x.frm.length∧x.frm.length≤16) && lowB nb x.frm
 else decide (x.frm.length=0∧x.args.length≤4)
def mayER (nr nb:Int) (x:Ex):Bool :=
 if x.kind=1 then decide (x.a=0∧x.els=0) && lowB nb [x.to]
 else if x.kind=2 then lowB nr [x.a] && lowB nb [x.to,x.els]
 else if x.kind=3 then decide (x.to=0∧x.els=0) && lowB nr [x.a]
 else false
end Go.Proofs.YtbebficgcemkoaaGreatDoor.ShM
namespace Go.Proofs.YtbebficgcemkoaaGreatDoor.ShN
open TyM ShM

theorem lowB_cons {m a:Int} {l:List Int} : lowB m (a :: l)=(decide (0≤a∧a < m) && lowB m l):=by
 unfold lowB;rw [List.all_cons]
theorem lowB_none {m:Int} : lowB m []=true:=rfl
theorem t0 {nt nr nf nb n:Int} : toldV (limL nt nr nf nb) 0 n=0↔n=0:=by
 unfold toldV toldB limL
 have e:(decide ((0:Int)=1) || (decide (0≤n) && decide (n < List.getD [1,0,nt,nr,nf,nb,8] (Int.toNat 0) 0)))=decide (n=0):=by
  rw [Bool.eq_iff_iff];simp;omega
 rw [e];by_cases h:n=0<;>simp [h]
theorem t1 {nt nr nf nb n:Int} : toldV (limL nt nr nf nb) 1 n=1:=by
 unfold toldV toldB;simp
theorem tv {nt nr nf nb n w m:Int} (hw:w≠1) (h7:w≠7) (hm:(limL nt nr nf nb).getD w.toNat 0=m):toldV (limL nt nr nf nb) w n=w↔0≤n∧n < m:=by
 unfold toldV toldB
 rw [hm]
 by_cases h:0≤n∧n < m
 ·simp [h]
 ·have:(decide (w=1) || (decide (0≤n) && decide (n < m)))=false:=by
   rw [Bool.eq_false_iff];simp [hw];omega
  rw [this];simp [h];omega
theorem t2 {nt nr nf nb n:Int} : toldV (limL nt nr nf nb) 2 n=2↔0≤n∧n < nt:=tv (by decide) (by decide) rfl
theorem t3 {nt nr nf nb n:Int} : toldV (limL nt nr nf nb) 3 n=3↔0≤n∧n < nr:=tv (by decide) (by decide) rfl
theorem t4 {nt nr nf nb n:Int} : toldV (limL nt nr nf nb) 4 n=4↔0≤n∧n < nf:=tv (by decide) (by decide) rfl
theorem t5 {nt nr nf nb n:Int} : toldV (limL nt nr nf nb) 5 n=5↔0≤n∧n < nb:=tv (by decide) (by decide) rfl
theorem t6 {nt nr nf nb n:Int} : toldV (limL nt nr nf nb) 6 n=6↔0≤n∧n < 8:=tv (by decide) (by decide) rfl

theorem mayE_eq {nt nr nf nb:Int} {x:Ex} (h0:0≤x.kind):mayE (limL nt nr nf nb) x=mayER nr nb x:=by
 obtain ⟨k,a,to,els⟩:=x
 simp only at h0
 by_cases h:k < 4
 ·have:k=0∨k=1∨k=2∨k=3:=by omega
  rw [Bool.eq_iff_iff]
  rcases this with rfl | rfl | rfl | rfl <;>
   simp [mayE,mayER,thereE,hasEOf,rowsE,hasE0,t0,t3,t5,lowB]<;>omega
 ·have hk:k≠1∧k≠2∧k≠3:=by omega
  simp [mayE,mayER,hasEOf_over (show 4≤k by omega),hk]

theorem r0:hasOf 0=⟨0,0,0,0,0,0,0⟩:=rfl
theorem r1:hasOf 1=⟨2,0,0,1,0,0,0⟩:=rfl
theorem r2:hasOf 2=⟨2,0,0,0,0,0,0⟩:=rfl
theorem r3:hasOf 3=⟨2,0,0,4,0,0,0⟩:=rfl
theorem r4:hasOf 4=⟨2,3,3,0,0,0,0⟩:=rfl
theorem r5:hasOf 5=⟨2,3,3,0,0,0,0⟩:=rfl
theorem r6:hasOf 6=⟨2,3,3,0,0,0,0⟩:=rfl
theorem r7:hasOf 7=⟨2,3,3,0,0,0,0⟩:=rfl
theorem r8:hasOf 8=⟨2,3,3,0,0,0,0⟩:=rfl
theorem r9:hasOf 9=⟨2,3,3,0,0,0,0⟩:=rfl
theorem r10:hasOf 10=⟨2,3,3,0,0,0,0⟩:=rfl
theorem r11:hasOf 11=⟨2,0,0,0,0,0,0⟩:=rfl
theorem r12:hasOf 12=⟨2,0,0,0,0,0,0⟩:=rfl
theorem r13:hasOf 13=⟨0,3,0,0,0,0,0⟩:=rfl
theorem r14:hasOf 14=⟨2,3,0,6,0,0,0⟩:=rfl
theorem r15:hasOf 15=⟨2,3,3,0,0,0,0⟩:=rfl
theorem r16:hasOf 16=⟨2,3,0,0,0,0,0⟩:=rfl
theorem r17:hasOf 17=⟨0,3,3,0,0,0,0⟩:=rfl
theorem r18:hasOf 18=⟨2,0,0,4,0,4,0⟩:=rfl
theorem r19:hasOf 19=⟨2,3,0,0,0,4,0⟩:=rfl
theorem r20:hasOf 20=⟨2,0,0,0,0,0,0⟩:=rfl
theorem r21:hasOf 21=⟨0,3,0,0,0,0,0⟩:=rfl
theorem r22:hasOf 22=⟨2,0,0,0,1,16,1⟩:=rfl

theorem mayI_iff {L:List Int} {x:Ix} : mayI L x=true↔¬ hasOf x.op=has0∧thereOf L x=hasOf x.op∧(x.frm.length:Int)=(hasOf x.op).per * x.args.length∧lowB (L.getD 3 0) x.args=true∧lowB (L.getD 5 0) x.frm=true:=by
 unfold mayI
 by_cases h1:hasOf x.op=has0∨thereOf L x≠hasOf x.op∨(x.frm.length:Int)≠(hasOf x.op).per * x.args.length
 ·rw [if_pos h1]
  constructor
  ·intro h;cases h
  ·rintro ⟨a,b,c,_⟩
   rcases h1 with h | h | h
   ·exact absurd h a
   ·exact absurd b h
   ·exact absurd c h
 ·rw [if_neg h1,Bool.and_eq_true]
  obtain ⟨a,b⟩:=not_or.1 h1
  obtain ⟨b,c⟩:=not_or.1 b
  exact ⟨fun h=>⟨a,Classical.not_not.1 b,Classical.not_not.1 c,h⟩,fun h=>h.2.2.2⟩

theorem mayI_eq {nt nr nf nb:Int} {x:Ix} (h0:0≤x.op):mayI (limL nt nr nf nb) x=mayIR nt nr nf nb x:=by
 obtain ⟨op,typ,a,b,n,args,frm⟩:=x
 simp only at h0
 have e3:(limL nt nr nf nb).getD 3 0=nr:=rfl
 have e5:(limL nt nr nf nb).getD 5 0=nb:=rfl
 by_cases h:op < 23
 ·have:op=0∨op=1∨op=2∨op=3∨op=4∨op=5∨op=6∨op=7∨op=8∨op=9∨op=10∨op=11∨op=12∨op=13∨op=14∨op=15∨op=16∨op=17∨op=18∨op=19∨op=20∨op=21∨op=22:=by omega
  rw [Bool.eq_iff_iff,mayI_iff]
  unfold mayIR
  rw [e3,e5]
  clear e3 e5 h h0
  generalize ha:lowB nr args=P
  generalize hf:lowB nb frm=Q
  have hP:args.length=0→P=true:=by intro h;rw [← ha,List.length_eq_zero_iff.1 h];rfl
  have hQ:frm.length=0→Q=true:=by intro h;rw [← hf,List.length_eq_zero_iff.1 h];rfl
  simp only [thereOf,has_eq,usesOf]
  generalize args.length=la at *
  generalize frm.length=lf at *
  rcases this with rfl | rfl | rfl | rfl | rfl | rfl | rfl | rfl | rfl | rfl | rfl | rfl | rfl | rfl | rfl | rfl | rfl | rfl | rfl | rfl | rfl | rfl | rfl <;>
   simp [r0,r1,r2,r3,r4,r5,r6,r7,r8,r9,r10,r11,r12,r13,r14,r15,r16,r17,r18,r19,r20,r21,r22,has0,t0,t1,t2,t3,t4,t6,hasAB,twoB,argsB,answersB,mayNR,lowB_cons,lowB_none,ha] <;>
   (cases P<;>cases Q<;>simp at hP hQ ⊢<;>try omega)
 ·simp [mayI,mayIR,hasOf_over (show 23≤op by omega)]
  omega
end Go.Proofs.YtbebficgcemkoaaGreatDoor.ShN
