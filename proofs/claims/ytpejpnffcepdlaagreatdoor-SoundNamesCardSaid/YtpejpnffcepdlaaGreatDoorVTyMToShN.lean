/- Plain facts on tables of types: which may be, their cells, their parts. Plain facts on programs as data: what an instruction has, which shapes may be, registers and places. Plain facts on graphs of few vertices: what can be come to, and the order in which they are gone through. Plain facts on graphs of few vertices: what is come to, by rounds over all vertices, with one that may be left out. Plain facts on what grows round by round: after as many rounds as there are places nothing more comes. How many registers an instruction, and an end, names. What may be, by the tables, is what may be by the document's words. -/
import Derived.Lib.Hide
set_option maxRecDepth 100000
set_option maxHeartbeats 16000000
namespace Go.Proofs.YtpejpnffcepdlaaGreatDoor.TyM

structure Ty where
 kind:Int
 elem:Int
 many:Int
 parts:List Int

theorem ty_eq {a b:Ty} : a=b↔a.kind=b.kind∧a.elem=b.elem∧a.many=b.many∧a.parts=b.parts:=by
 cases a;cases b;simp
instance:DecidableEq Ty:=fun _ _=>decidable_of_iff _ ty_eq.symm
instance:Inhabited Ty:=⟨⟨0,0,0,[]⟩⟩

def scalarK (k:Int):Bool:=decide (k=1∨k=2∨k=3)
def lowB (m:Int) (l:List Int):Bool:=l.all fun n=>decide (0≤n∧n < m)
theorem lowB_iff {m:Int} {l:List Int} : lowB m l=true↔∀ n∈l,0≤n∧n < m:=by simp [lowB]
def plainB (t:List Ty) (n:Int):Bool:=decide (0≤n) && (match t[n.toNat]? with | some x=>scalarK x.kind | none=>false)
def plainsB (t:List Ty) (l:List Int):Bool:=l.all (plainB t)
theorem plainB_iff {t:List Ty} {n:Int} : plainB t n=true↔0≤n∧∃ x,t[n.toNat]?=some x∧scalarK x.kind=true:=by
 unfold plainB
 cases t[n.toNat]?<;>simp
theorem plainB_at {t:List Ty} {k:Nat} {x:Ty} (h:t[k]?=some x):plainB t (k:Int)=scalarK x.kind:=by
 unfold plainB;simp [h]
theorem plainB_low {t:List Ty} {n:Int} (h:plainB t n=true):0≤n∧n < t.length:=by
 obtain ⟨h0,x,hx,_⟩:=plainB_iff.1 h
 have:=(List.getElem?_eq_some_iff.1 hx).1
 omega
theorem plainsB_low {t:List Ty} {l:List Int} (h:plainsB t l=true):lowB t.length l=true :=
 lowB_iff.2 fun n hn=>plainB_low (List.all_eq_true.1 h n hn)

def mayX (t:List Ty) (k:Nat) (x:Ty):Bool :=
 if x.kind=1 then decide (x.elem=0) && (decide (x.many=0) && decide (x.parts.length=0))
 else if x.kind=2 then lowB t.length [x.elem] && (decide (x.many=0) && decide (x.parts.length=0))
 else if x.kind=3 then decide (x.parts.length≤4) && (plainB t x.elem && (plainsB t x.parts && decide (x.many=0)))
 else if x.kind=4 then decide (1≤x.parts.length) && (decide (x.parts.length≤8) && (lowB k x.parts && (decide (x.elem=0) && decide (x.many=0))))
 else if x.kind=5 then decide (1≤x.many) && (decide (x.many≤16) && (lowB k [x.elem] && decide (x.parts.length=0)))
 else false
def mayB (t:List Ty) (k:Nat):Bool:=match t[k]? with | some x=>mayX t k x | none=>false
theorem mayB_at {t:List Ty} {k:Nat} {x:Ty} (h:t[k]?=some x):mayB t k=mayX t k x:=by unfold mayB;rw [h]

def partsOf (x:Ty):List Int:=if x.kind=4 then x.parts else if x.kind=5 then List.replicate x.many.toNat x.elem else []
theorem partsOf_struct {x:Ty} (h:x.kind=4):partsOf x=x.parts:=by unfold partsOf;rw [if_pos h]
theorem partsOf_array {x:Ty} (h:x.kind=5):partsOf x=List.replicate x.many.toNat x.elem:=by unfold partsOf;rw [if_neg (by omega),if_pos h]
theorem partsOf_other {x:Ty} (h4:x.kind≠4) (h5:x.kind≠5):partsOf x=[]:=by unfold partsOf;rw [if_neg h4,if_neg h5]
theorem partsOf_scalar {x:Ty} (h:scalarK x.kind=true):partsOf x=[]:=by
 unfold scalarK at h
 have:=of_decide_eq_true h
 exact partsOf_other (by omega) (by omega)

theorem mayX_kind {t:List Ty} {k:Nat} {x:Ty} (h:mayX t k x=true):scalarK x.kind=true∨x.kind=4∨x.kind=5:=by
 unfold mayX at h
 unfold scalarK
 by_cases h1:x.kind=1
 ·left;simp [h1]
 by_cases h2:x.kind=2
 ·left;simp [h2]
 by_cases h3:x.kind=3
 ·left;simp [h3]
 by_cases h4:x.kind=4
 ·right;left;exact h4
 by_cases h5:x.kind=5
 ·right;right;exact h5
 simp [h1,h2,h3,h4,h5] at h
theorem mayX_struct {t:List Ty} {k:Nat} {x:Ty} (h:mayX t k x=true) (h4:x.kind=4):1≤x.parts.length∧x.parts.length≤8∧∀ p∈x.parts,0≤p∧p < k:=by
 unfold mayX at h
 simp [h4] at h
 exact ⟨h.1,h.2.1,lowB_iff.1 h.2.2.1⟩
theorem mayX_array {t:List Ty} {k:Nat} {x:Ty} (h:mayX t k x=true) (h5:x.kind=5):1≤x.many∧x.many≤16∧0≤x.elem∧x.elem < k:=by
 unfold mayX at h
 simp [h5] at h
 obtain ⟨a,b⟩:=lowB_iff.1 h.2.2.1 x.elem (by simp)
 exact ⟨h.1,h.2.1,a,b⟩
theorem mayX_low {t:List Ty} {k:Nat} {x:Ty} (h:mayX t k x=true):∀ p∈partsOf x,0≤p∧p < k:=by
 intro p hp
 by_cases h4:x.kind=4
 ·rw [partsOf_struct h4] at hp;exact (mayX_struct h h4).2.2 p hp
 by_cases h5:x.kind=5
 ·rw [partsOf_array h5] at hp
  obtain rfl:=(List.mem_replicate.1 hp).2
  exact (mayX_array h h5).2.2
 rw [partsOf_other h4 h5] at hp;cases hp
theorem mayX_parts {t:List Ty} {k:Nat} {x:Ty} (h:mayX t k x=true):(partsOf x).length≤16:=by
 by_cases h4:x.kind=4
 ·rw [partsOf_struct h4];have:=(mayX_struct h h4).2.1;omega
 by_cases h5:x.kind=5
 ·rw [partsOf_array h5,List.length_replicate];have:=(mayX_array h h5).2.1;omega
 rw [partsOf_other h4 h5];simp

def cellsOf (t:List Ty) (k:Nat):List Int :=
 match t[k]? with
 | none=>[(k:Int)]
 | some x=>if x.kind=4∨x.kind=5 then (partsOf x).flatMap fun p=>if _h:p.toNat < k then cellsOf t p.toNat else [] else [(k:Int)]
 termination_by k
def cellsAll (t:List Ty) (l:List Int):List Int:=l.flatMap fun p=>cellsOf t p.toNat
theorem cellsAll_nil (t:List Ty):cellsAll t []=[]:=rfl
theorem cellsAll_cons (t:List Ty) (p:Int) (l:List Int):cellsAll t (p :: l)=cellsOf t p.toNat++cellsAll t l:=by simp [cellsAll]
theorem cellsAll_append (t:List Ty) (a b:List Int):cellsAll t (a++b)=cellsAll t a++cellsAll t b:=by simp [cellsAll]
theorem cellsAll_take (t:List Ty) {l:List Int} {k:Nat} (h:k < l.length):cellsAll t (l.take (k+1))=cellsAll t (l.take k)++cellsOf t l[k].toNat:=by
 rw [List.take_succ_eq_append_getElem h,cellsAll_append,cellsAll_cons,cellsAll_nil,List.append_nil]
theorem cellsOf_scalar {t:List Ty} {k:Nat} {x:Ty} (h:t[k]?=some x) (hs:scalarK x.kind=true):cellsOf t k=[(k:Int)]:=by
 unfold scalarK at hs
 have:=of_decide_eq_true hs
 rw [cellsOf,h]
 exact if_neg (by omega)
theorem cellsOf_parts {t:List Ty} {k:Nat} {x:Ty} (h:t[k]?=some x) (hk:x.kind=4∨x.kind=5) (hp:∀ p∈partsOf x,0≤p∧p < k):cellsOf t k=cellsAll t (partsOf x):=by
 rw [cellsOf,h]
 show ite _ _ _=_
 rw [if_pos hk]
 unfold cellsAll
 rw [List.flatMap_def,List.flatMap_def]
 congr 1
 refine List.map_congr_left fun p hm=>?_
 have:=hp p hm
 rw [dif_pos (by omega)]

def goodB (t:List Ty) (k:Nat):Bool:=mayB t k && decide ((cellsOf t k).length≤32)
def Lows (t:List Ty) (k:Nat):Prop:=∀ j,j < k→goodB t j=true
theorem goodB_iff {t:List Ty} {k:Nat} : goodB t k=true↔∃ x,t[k]?=some x∧mayX t k x=true∧(cellsOf t k).length≤32:=by
 unfold goodB mayB
 cases t[k]?<;>simp
theorem Lows.mono {t:List Ty} {k n:Nat} (h:Lows t n) (hk:k≤n):Lows t k:=fun j hj=>h j (by omega)
def chkT (t:List Ty):Int:=if 16 < t.length then 4 else if (List.range t.length).all (goodB t) then 0 else 30
theorem chkT_many {t:List Ty} (h:16 < t.length):chkT t=4:=by unfold chkT;rw [if_pos h]
theorem chkT_ok {t:List Ty} (h:t.length≤16) (hg:Lows t t.length):chkT t=0:=by
 unfold chkT
 rw [if_neg (by omega),if_pos]
 simp
 exact fun k hk=>hg k hk
theorem chkT_bad {t:List Ty} {k:Nat} (h:t.length≤16) (hk:k < t.length) (hg:goodB t k=false):chkT t=30:=by
 unfold chkT
 rw [if_neg (by omega),if_neg]
 intro hh
 have:=List.all_eq_true.1 hh k (by simpa using hk)
 rw [hg] at this;cases this
theorem chkT_zero {t:List Ty} (h:chkT t=0):t.length≤16∧Lows t t.length:=by
 unfold chkT at h
 by_cases h1:16 < t.length
 ·rw [if_pos h1] at h;omega
 rw [if_neg h1] at h
 by_cases h2:(List.range t.length).all (goodB t)=true
 ·exact ⟨by omega,fun j hj=>List.all_eq_true.1 h2 j (by simpa using hj)⟩
 ·rw [if_neg h2] at h;omega
theorem cellsAll_length (t:List Ty) (m:Nat):∀ (l:List Int),(∀ p∈l,(cellsOf t p.toNat).length≤m)→(cellsAll t l).length≤l.length * m
 | [],_=>by simp [cellsAll]
 | p :: l,h=>by
  have:=cellsAll_length t m l fun q hq=>h q (by simp [hq])
  have:=h p (by simp)
  rw [cellsAll_cons,List.length_append,List.length_cons,Nat.succ_mul]
  omega
theorem lows_cells {t:List Ty} {k:Nat} {l:List Int} (h:Lows t k) (hl:∀ p∈l,0≤p∧p < k):(cellsAll t l).length≤l.length * 32 :=
 cellsAll_length t 32 l fun p hp=>by
  have:=hl p hp
  obtain ⟨_,_,_,h3⟩:=goodB_iff.1 (h p.toNat (by omega))
  exact h3

end Go.Proofs.YtpejpnffcepdlaaGreatDoor.TyM
namespace Go.Proofs.YtpejpnffcepdlaaGreatDoor.ShM
open TyM

structure Ix where
 op:Int
 typ:Int
 a:Int
 b:Int
 n:Int
 args:List Int
 frm:List Int
structure Ex where
 kind:Int
 a:Int
 to:Int
 els:Int
structure Bx where
 ins:List Ix
 en:Ex
structure Fx where
 sig:Int
 blocks:List Bx
structure Px where
 types:List Ty
 funcs:List Fx

theorem ix_eq {x y:Ix} : x=y↔x.op=y.op∧x.typ=y.typ∧x.a=y.a∧x.b=y.b∧x.n=y.n∧x.args=y.args∧x.frm=y.frm:=by
 cases x;cases y;simp
instance:DecidableEq Ix:=fun _ _=>decidable_of_iff _ ix_eq.symm
theorem ex_eq {x y:Ex} : x=y↔x.kind=y.kind∧x.a=y.a∧x.to=y.to∧x.els=y.els:=by
 cases x;cases y;simp
instance:DecidableEq Ex:=fun _ _=>decidable_of_iff _ ex_eq.symm
theorem bx_eq {x y:Bx} : x=y↔x.ins=y.ins∧x.en=y.en:=by
 cases x;cases y;simp
instance:DecidableEq Bx:=fun _ _=>decidable_of_iff _ bx_eq.symm
theorem fx_eq {x y:Fx} : x=y↔x.sig=y.sig∧x.blocks=y.blocks:=by
 cases x;cases y;simp
instance:DecidableEq Fx:=fun _ _=>decidable_of_iff _ fx_eq.symm
theorem px_eq {x y:Px} : x=y↔x.types=y.types∧x.funcs=y.funcs:=by
 cases x;cases y;simp
instance:DecidableEq Px:=fun _ _=>decidable_of_iff _ px_eq.symm
instance:Inhabited Ix:=⟨⟨0,0,0,0,0,[],[]⟩⟩
instance:Inhabited Bx:=⟨⟨[],⟨0,0,0,0⟩⟩⟩
instance:Inhabited Fx:=⟨⟨0,[]⟩⟩

/-! what an instruction, and an end, has: the code's tables -/
structure Has where
 typ:Int
 a:Int
 b:Int
 n:Int
 least:Int
 most:Int
 per:Int
theorem has_eq {x y:Has} : x=y↔x.typ=y.typ∧x.a=y.a∧x.b=y.b∧x.n=y.n∧x.least=y.least∧x.most=y.most∧x.per=y.per:=by
 cases x;cases y;simp
instance:DecidableEq Has:=fun _ _=>decidable_of_iff _ has_eq.symm
def has0:Has:=⟨0,0,0,0,0,0,0⟩
def rowsH:List Has :=
 [⟨0,0,0,0,0,0,0⟩,⟨2,0,0,1,0,0,0⟩,⟨2,0,0,0,0,0,0⟩,⟨2,0,0,4,0,0,0⟩,⟨2,3,3,0,0,0,0⟩,⟨2,3,3,0,0,0,0⟩,⟨2,3,3,0,0,0,0⟩,⟨2,3,3,0,0,0,0⟩,
  ⟨2,3,3,0,0,0,0⟩,⟨2,3,3,0,0,0,0⟩,⟨2,3,3,0,0,0,0⟩,⟨2,0,0,0,0,0,0⟩,⟨2,0,0,0,0,0,0⟩,⟨0,3,0,0,0,0,0⟩,⟨2,3,0,6,0,0,0⟩,⟨2,3,3,0,0,0,0⟩,
  ⟨2,3,0,0,0,0,0⟩,⟨0,3,3,0,0,0,0⟩,⟨2,0,0,4,0,4,0⟩,⟨2,3,0,0,0,4,0⟩,⟨2,0,0,0,0,0,0⟩,⟨0,3,0,0,0,0,0⟩,⟨2,0,0,0,1,16,1⟩]
def hasOf (op:Int):Has:=(rowsH[op.toNat]?).getD has0
theorem hasOf_over {op:Int} (h:23≤op):hasOf op=has0:=by
 unfold hasOf
 rw [List.getElem?_eq_none]
 ·rfl
 ·show 23≤_
  omega
structure HasE where
 a:Int
 to:Int
 els:Int
theorem hase_eq {x y:HasE} : x=y↔x.a=y.a∧x.to=y.to∧x.els=y.els:=by
 cases x;cases y;simp
instance:DecidableEq HasE:=fun _ _=>decidable_of_iff _ hase_eq.symm
def hasE0:HasE:=⟨0,0,0⟩
def rowsE:List HasE:=[⟨0,0,0⟩,⟨0,5,0⟩,⟨3,5,5⟩,⟨3,0,0⟩]
def hasEOf (k:Int):HasE:=(rowsE[k.toNat]?).getD hasE0
theorem hasEOf_over {k:Int} (h:4≤k):hasEOf k=hasE0:=by
 unfold hasEOf
 rw [List.getElem?_eq_none]
 ·rfl
 ·show 4≤_
  omega

/-! by the document's words -/
def twoB (op:Int):Bool:=decide ((4≤op∧op≤10)∨op=15∨op=17)
def hasAB (op:Int):Bool:=twoB op || decide (op=13∨op=14∨op=16∨op=19∨op=21)
def argsB (op:Int):Bool:=decide (op=18∨op=19∨op=22)
def answersB (op:Int):Bool:=decide (1≤op∧op≤22∧op≠13∧op≠17∧op≠21)
def usesOf (x:Ix):List Int:=(if hasAB x.op=true then [x.a] else [])++((if twoB x.op=true then [x.b] else [])++(if argsB x.op=true then x.args else []))
def endsOf (x:Ex):List Int:=if x.kind=2∨x.kind=3 then [x.a] else []

theorem op_cases {op:Int} (h0:0≤op):(∃ k:Fin 23,op=(k.val:Int))∨23≤op:=by
 by_cases h:op < 23
 ·exact .inl ⟨⟨op.toNat,by omega⟩,by simp;omega⟩
 ·exact .inr (by omega)
theorem has_tell:∀ k:Fin 23,decide ((hasOf (k.val:Int)).typ=2)=answersB k.val∧decide ((hasOf (k.val:Int)).a=3)=hasAB k.val∧decide ((hasOf (k.val:Int)).b=3)=twoB k.val∧decide (0 < (hasOf (k.val:Int)).most)=argsB k.val:=by decide
theorem has_tells {op:Int} (h0:0≤op):decide ((hasOf op).typ=2)=answersB op∧decide ((hasOf op).a=3)=hasAB op∧decide ((hasOf op).b=3)=twoB op∧decide (0 < (hasOf op).most)=argsB op:=by
 rcases op_cases h0 with ⟨k,rfl⟩ | h
 ·exact has_tell k
 ·rw [hasOf_over h]
  have e1:answersB op=false:=by unfold answersB;simp;omega
  have e2:twoB op=false:=by unfold twoB;simp;omega
  have e3:hasAB op=false:=by unfold hasAB;rw [e2];simp;omega
  have e4:argsB op=false:=by unfold argsB;simp;omega
  rw [e1,e2,e3,e4]
  decide
theorem hase_tells {k:Int} (h0:0≤k):((hasEOf k).a=3↔k=2∨k=3):=by
 by_cases h:k < 4
 ·have:k=0∨k=1∨k=2∨k=3:=by omega
  rcases this with rfl | rfl | rfl | rfl<;>decide
 ·rw [hasEOf_over (by omega)]
  constructor
  ·intro h;exact absurd h (by decide)
  ·omega

/-! which may be -/
def limL (nt nr nf nb:Int):List Int:=[1,0,nt,nr,nf,nb,8]
def toldB (L:List Int) (want n:Int):Bool:=decide (want=1) || (decide (0≤n) && decide (n < L.getD want.toNat 0))
def toldV (L:List Int) (want n:Int):Int:=if toldB L want n=true then want else 7
def thereOf (L:List Int) (x:Ix):Has :=
 ⟨toldV L (hasOf x.op).typ x.typ,toldV L (hasOf x.op).a x.a,toldV L (hasOf x.op).b x.b,toldV L (hasOf x.op).n x.n,min (hasOf x.op).least x.args.length,max (hasOf x.op).most x.args.length,(hasOf x.op).per⟩
def mayI (L:List Int) (x:Ix):Bool :=
 if hasOf x.op=has0∨thereOf L x≠hasOf x.op∨(x.frm.length:Int)≠(hasOf x.op).per * x.args.length then false
 else lowB (L.getD 3 0) x.args && lowB (L.getD 5 0) x.frm
def thereE (L:List Int) (x:Ex):HasE:=⟨toldV L (hasEOf x.kind).a x.a,toldV L (hasEOf x.kind).to x.to,toldV L (hasEOf x.kind).els x.els⟩
def mayE (L:List Int) (x:Ex):Bool:=decide (hasEOf x.kind≠hasE0) && decide (thereE L x=hasEOf x.kind)
def mayBl (L:List Int) (b:Bx):Bool:=mayE L b.en && b.ins.all (mayI L)

/-! the same, by the document's words -/
def mayNR (nf:Int) (x:Ix):Bool :=
 if x.op=1 then true else if x.op=3∨x.op=18 then decide (0≤x.n∧x.n < nf) else if x.op=14 then decide (0≤x.n∧x.n < 8) else decide (x.n=0)
def mayIR (nt nr nf nb:Int) (x:Ix):Bool :=
 if x.op < 1∨22 < x.op∨lowB nr (usesOf x)=false∨mayNR nf x=false then false
 else if (hasAB x.op=false∧x.a≠0)∨(twoB x.op=false∧x.b≠0)∨(argsB x.op=false∧0 < x.args.length) then false
 else if (answersB x.op=true∧(x.typ < 0∨nt≤x.typ))∨(answersB x.op=false∧x.typ≠0) then false
 else if x.op=22 then decide (x.frm.length=x.args.length∧1≤x.frm.length∧x.frm.length≤16) && lowB nb x.frm
 else decide (x.frm.length=0∧x.args.length≤4)
def mayER (nr nb:Int) (x:Ex):Bool :=
 if x.kind=1 then decide (x.a=0∧x.els=0) && lowB nb [x.to]
 else if x.kind=2 then lowB nr [x.a] && lowB nb [x.to,x.els]
 else if x.kind=3 then decide (x.to=0∧x.els=0) && lowB nr [x.a]
 else false
end Go.Proofs.YtpejpnffcepdlaaGreatDoor.ShM
namespace Go.Proofs.YtpejpnffcepdlaaGreatDoor.FwM

inductive Comes (t:Nat→List Nat) (a:Nat):Nat→Prop
 | here:Comes t a a
 | step {b c:Nat} : Comes t a b→c∈t b→Comes t a c
theorem Comes.trans {t:Nat→List Nat} {a b c:Nat} (h:Comes t a b) (k:Comes t b c):Comes t a c:=by
 induction k with
 | here=>exact h
 | step _ hc ih=>exact .step ih hc
theorem Comes.one {t:Nat→List Nat} {a b:Nat} (h:b∈t a):Comes t a b:=.step .here h
theorem Comes.lt {t:Nat→List Nat} {n a b:Nat} (ht:∀ i,i < n→∀ j∈t i,j < n) (ha:a < n) (h:Comes t a b):b < n:=by
 induction h with
 | here=>exact ha
 | step _ hc ih=>exact ht _ ih _ hc

theorem nodup_len:∀ (n:Nat) {l:List Nat},l.Nodup→(∀ v∈l,v < n)→l.length≤n
 | 0,l,_,h=>by
  cases l with
  | nil=>exact Nat.le_refl _
  | cons x l=>exact absurd (h x (by simp)) (by omega)
 | n+1,l,hn,h=>by
  by_cases hm:n∈l
  ·have h1:=nodup_len n (hn.erase n) (fun v hv=>by
    have h2:=(hn.mem_erase_iff).1 hv
    have:=h v h2.2
    have:=h2.1
    omega)
   rw [List.length_erase_of_mem hm] at h1
   omega
  ·have:=nodup_len n hn (fun v hv=>by
    have:=h v hv
    have:v≠n:=fun e=>hm (e ▸ hv)
    omega)
   omega

/-! going through -/
def thr (t:Nat→List Nat):Nat→Nat→List Nat × List Nat→List Nat × List Nat
 | 0,_,s=>s
 | f+1,b,s=>if b∈s.1 then s else
   let s1:=(t b).foldl (fun s c=>thr t f c s) (s.1++[b],s.2)
   (s1.1,s1.2++[b])
structure Inv (n:Nat) (s:List Nat × List Nat):Prop where
 nd:s.1.Nodup
 lt:∀ v∈s.1,v < n
 sub:∀ v∈s.2,v∈s.1
 nd2:s.2.Nodup
def Gray (s:List Nat × List Nat) (v:Nat):Prop:=v∈s.1∧v∉s.2
def Ord (t:Nat→List Nat) (out:List Nat):Prop:=∀ i u,out[i]?=some u→∀ c∈t u,c∈out.take i∨Comes t c u
structure Res (t:Nat→List Nat) (n:Nat) (cs:List Nat) (s s' : List Nat × List Nat):Prop where
 inv:Inv n s'
 beg:∀ v∈s.1,v∈s'.1
 len:s.1.length≤s'.1.length
 gray:∀ v,Gray s' v↔Gray s v
 out:∃ w,s'.2=s.2++w
 new:∀ v∈s'.1,v∈s.1∨∃ c∈cs,Comes t c v
 closed:∀ v∈s'.2,v∈s.2∨∀ c∈t v,c∈s'.1
 ord:(∀ g,Gray s g→∀ c∈cs,Comes t g c)→Ord t s.2→Ord t s'.2
 all:∀ c∈cs,c∈s'.1
theorem Res.nil {t:Nat→List Nat} {n:Nat} {s:List Nat × List Nat} (h:Inv n s):Res t n [] s s :=
 ⟨h,fun _ h=>h,Nat.le_refl _,fun _=>Iff.rfl,⟨[],by simp⟩,fun _ h=>.inl h,fun _ h=>.inl h,fun _ h=>h,fun c hc=>by cases hc⟩
theorem Res.cons {t:Nat→List Nat} {n:Nat} {c:Nat} {cs:List Nat} {s s1 s2:List Nat × List Nat} (h1:Res t n [c] s s1) (h2:Res t n cs s1 s2):Res t n (c :: cs) s s2:=by
 refine ⟨h2.inv,fun v hv=>h2.beg v (h1.beg v hv),Nat.le_trans h1.len h2.len,fun v=>(h2.gray v).trans (h1.gray v),?_,fun v hv=>?_,fun v hv=>?_,fun hg ho=>?_,fun d hd=>?_⟩
 ·obtain ⟨w1,e1⟩:=h1.out
  obtain ⟨w2,e2⟩:=h2.out
  exact ⟨w1++w2,by rw [e2,e1,List.append_assoc]⟩
 ·rcases h2.new v hv with h | ⟨d,hd,h⟩
  ·rcases h1.new v h with h | ⟨d,hd,h⟩
   ·exact .inl h
   ·exact .inr ⟨d,by rw [List.mem_singleton.1 hd];simp,h⟩
  ·exact .inr ⟨d,by simp [hd],h⟩
 ·rcases h2.closed v hv with h | h
  ·rcases h1.closed v h with h | h
   ·exact .inl h
   ·exact .inr fun d hd=>h2.beg d (h d hd)
  ·exact .inr h
 ·refine h2.ord (fun g hg' d hd=>hg g ((h1.gray g).1 hg') d (by simp [hd])) (h1.ord (fun g hg' d hd=>hg g hg' d ?_) ho)
  rw [List.mem_singleton.1 hd];simp
 ·rcases List.mem_cons.1 hd with rfl | hd
  ·exact h2.beg d (h1.all d (by simp))
  ·exact h2.all d hd
theorem thr_res {t:Nat→List Nat} {n:Nat} (ht:∀ i,i < n→∀ j∈t i,j < n):∀ (f b:Nat) (s:List Nat × List Nat),Inv n s→b < n→n+1≤f+s.1.length→Res t n [b] s (thr t f b s)
 | 0,b,s,hi,_,hf=>by
  have:=nodup_len n hi.nd hi.lt
  omega
 | f+1,b,s,hi,hb,hf=>by
  unfold thr
  by_cases hm:b∈s.1
  ·rw [if_pos hm]
   exact ⟨hi,fun _ h=>h,Nat.le_refl _,fun _=>Iff.rfl,⟨[],by simp⟩,fun _ h=>.inl h,fun _ h=>.inl h,fun _ h=>h,fun c hc=>by rw [List.mem_singleton.1 hc];exact hm⟩
  ·rw [if_neg hm]
   have hbo:b∉s.2:=fun h=>hm (hi.sub b h)
   have fold:∀ (cs:List Nat) (s:List Nat × List Nat),Inv n s→(∀ c∈cs,c < n)→n+1≤f+s.1.length→Res t n cs s (cs.foldl (fun s c=>thr t f c s) s):=by
    intro cs
    induction cs with
    | nil=>intro s hi _ _;exact Res.nil hi
    | cons c cs ih =>
     intro s hi hc hf
     have h1:=thr_res ht f c s hi (hc c (by simp)) hf
     exact h1.cons (ih _ h1.inv (fun d hd=>hc d (by simp [hd])) (by have:=h1.len;omega))
   have hi0:Inv n (s.1++[b],s.2):=by
    refine ⟨?_,fun v hv=>?_,fun v hv=>by simp [hi.sub v hv],hi.nd2⟩
    ·show (s.1++[b]).Nodup
     rw [List.nodup_append]
     refine ⟨hi.nd,by simp,fun v hv w hw e=>hm ?_⟩
     rw [List.mem_singleton.1 hw] at e
     exact e ▸ hv
    ·rcases List.mem_append.1 hv with hv | hv
     ·exact hi.lt v hv
     ·rw [List.mem_singleton.1 hv];exact hb
   have hr:=fold (t b) (s.1++[b],s.2) hi0 (ht b hb) (by simp;omega)
   generalize (t b).foldl (fun s c=>thr t f c s) (s.1++[b],s.2)=s1 at hr
   have g0:∀ v,Gray (s.1++[b],s.2) v↔(Gray s v∨v=b):=by
    intro v
    unfold Gray
    simp only [List.mem_append,List.mem_singleton]
    constructor
    ·rintro ⟨h | h,k⟩
     ·exact .inl ⟨h,k⟩
     ·exact .inr h
    ·rintro (⟨h,k⟩ | rfl)
     ·exact ⟨.inl h,k⟩
     ·exact ⟨.inr rfl,hbo⟩
   have hb1:Gray s1 b:=(hr.gray b).2 ((g0 b).2 (.inr rfl))
   refine ⟨⟨hr.inv.nd,hr.inv.lt,fun v hv=>?_,?_⟩,fun v hv=>hr.beg v (by simp [hv]),(by have:=hr.len;simp at this;show s.1.length≤s1.1.length;omega),fun v=>?_,?_,fun v hv=>?_,fun v hv=>?_,fun hg ho=>?_,fun c hc=>by rw [List.mem_singleton.1 hc];exact hb1.1⟩
   ·rcases List.mem_append.1 hv with hv | hv
    ·exact hr.inv.sub v hv
    ·rw [List.mem_singleton.1 hv];exact hb1.1
   ·show (s1.2++[b]).Nodup
    rw [List.nodup_append]
    refine ⟨hr.inv.nd2,by simp,fun v hv w hw e=>hb1.2 ?_⟩
    rw [List.mem_singleton.1 hw] at e
    exact e ▸ hv
   ·have h1:=(hr.gray v).trans (g0 v)
    unfold Gray at h1 hb1 ⊢
    simp only [List.mem_append,List.mem_singleton,not_or]
    constructor
    ·rintro ⟨h,k,hne⟩
     rcases h1.1 ⟨h,k⟩ with h | h
     ·exact h
     ·exact absurd h hne
    ·intro h
     have h2:=h1.2 (.inl h)
     exact ⟨h2.1,h2.2,fun e=>hm (e ▸ h.1)⟩
   ·obtain ⟨w,e⟩:=hr.out
    exact ⟨w++[b],by show s1.2++[b]=_;rw [e,List.append_assoc]⟩
   ·rcases hr.new v hv with h | ⟨c,hc,h⟩
    ·rcases List.mem_append.1 h with h | h
     ·exact .inl h
     ·rw [List.mem_singleton.1 h];exact .inr ⟨b,by simp,.here⟩
    ·exact .inr ⟨b,by simp,(Comes.one hc).trans h⟩
   ·rcases List.mem_append.1 hv with hv | hv
    ·rcases hr.closed v hv with h | h
     ·exact .inl h
     ·exact .inr h
    ·rw [List.mem_singleton.1 hv];exact .inr hr.all
   ·have hg0:∀ g,Gray (s.1++[b],s.2) g→∀ c∈t b,Comes t g c:=by
     intro g hg' c hc
     rcases (g0 g).1 hg' with h | rfl
     ·exact .step (hg g h b (by simp)) hc
     ·exact .one hc
    have ho1:=hr.ord hg0 ho
    intro i u hu c hc
    rw [List.getElem?_append] at hu
    split at hu
    ·rename_i hlt
     rcases ho1 i u hu c hc with h | h
     ·refine .inl ?_
      show c∈(s1.2++[b]).take i
      rw [List.take_append_of_le_length (by omega)]
      exact h
     ·exact .inr h
    ·rename_i hlt
     have hi1:i=s1.2.length:=by
      have:=(List.getElem?_eq_some_iff.1 hu).1
      simp at this
      omega
     subst hi1
     simp at hu
     subst hu
     by_cases hco:c∈s1.2
     ·refine .inl ?_
      show c∈(s1.2++[b]).take s1.2.length
      rw [List.take_left]
      exact hco
     ·refine .inr ?_
      rcases (g0 c).1 ((hr.gray c).1 ⟨hr.all c hc,hco⟩) with h | rfl
      ·exact hg c h b (by simp)
      ·exact .here
def behind (t:Nat→List Nat) (n:Nat):List Nat:=(thr t (n+1) 0 ([],[])).2
def order (t:Nat→List Nat) (n:Nat):List Nat:=(behind t n).reverse
theorem behind_res {t:Nat→List Nat} {n:Nat} (h0:0 < n) (ht:∀ i,i < n→∀ j∈t i,j < n):Res t n [0] ([],[]) (thr t (n+1) 0 ([],[])) :=
 thr_res ht (n+1) 0 ([],[]) ⟨by simp,by simp,by simp,by simp⟩ h0 (by simp)
theorem order_mem {t:Nat→List Nat} {n:Nat} (h0:0 < n) (ht:∀ i,i < n→∀ j∈t i,j < n) (v:Nat):v∈order t n↔Comes t 0 v:=by
 have hr:=behind_res h0 ht
 unfold order behind
 rw [List.mem_reverse]
 have hin:∀ u,u∈(thr t (n+1) 0 ([],[])).1→u∈(thr t (n+1) 0 ([],[])).2:=fun u hu=>by
  refine Classical.byContradiction fun hh=>?_
  have:=(hr.gray u).1 ⟨hu,hh⟩
  exact absurd this.1 (by simp)
 constructor
 ·intro hv
  rcases hr.new v (hr.inv.sub v hv) with h | ⟨c,hc,h⟩
  ·cases h
  ·rw [List.mem_singleton.1 hc] at h;exact h
 ·intro h
  induction h with
  | here=>exact hin 0 (hr.all 0 (by simp))
  | step _ hc ih =>
   rcases hr.closed _ ih with h | h
   ·cases h
   ·exact hin _ (h _ hc)
theorem order_nodup {t:Nat→List Nat} {n:Nat} (h0:0 < n) (ht:∀ i,i < n→∀ j∈t i,j < n):(order t n).Nodup:=by
 unfold order behind
 unfold List.Nodup
 rw [List.pairwise_reverse]
 exact (behind_res h0 ht).inv.nd2.imp fun h e=>h e.symm
theorem order_head {t:Nat→List Nat} {n:Nat} : ∃ r,order t n=0 :: r:=by
 unfold order behind thr
 rw [if_neg (by simp)]
 simp only [List.reverse_append,List.reverse_singleton]
 exact ⟨_,rfl⟩
end Go.Proofs.YtpejpnffcepdlaaGreatDoor.FwM
namespace Go.Proofs.YtpejpnffcepdlaaGreatDoor.FwC
open FwM

inductive Way (t:Nat→List Nat) (but:Int) (first:List Nat):Nat→Prop
 | start {a:Nat} : a∈first→(a:Int)≠but→Way t but first a
 | step {b c:Nat} : Way t but first b→c∈t b→(c:Int)≠but→Way t but first c
theorem way_comes {t:Nat→List Nat} {but:Int} {first:List Nat} (hb:but < 0) {v:Nat} : Way t but first v↔∃ a∈first,FwM.Comes t a v:=by
 constructor
 ·intro h
  induction h with
  | start ha _=>exact ⟨_,ha,.here⟩
  | step _ hc _ ih =>
   obtain ⟨a,ha,h⟩:=ih
   exact ⟨a,ha,.step h hc⟩
 ·rintro ⟨a,ha,h⟩
  induction h with
  | here=>exact .start ha (by omega)
  | step _ hc ih=>exact .step ih hc (by omega)

/-! the rounds -/
def has (out:List Bool) (v:Nat):Bool:=out.getD v false
def mark (but:Int) (out:List Bool) (j:Nat):List Bool:=out.set j (has out j || decide ((j:Int)≠but))
def goes (t:Nat→List Nat) (but:Int) (out:List Bool) (i:Nat):List Bool:=if has out i=true then (t i).foldl (mark but) out else out
def pass (t:Nat→List Nat) (but:Int) (n:Nat) (out:List Bool):List Bool:=(List.range n).foldl (goes t but) out
def begin (but:Int) (out:List Bool) (f:Nat):List Bool:=out.set f (decide ((f:Int)≠but))
def start (but:Int) (n:Nat) (first:List Nat):List Bool:=first.foldl (begin but) (List.replicate n false)
def passes (t:Nat→List Nat) (but:Int) (n:Nat):Nat→List Bool→List Bool
 | 0,out=>out
 | k+1,out=>passes t but n k (pass t but n out)
def comeO (t:Nat→List Nat) (but:Int) (n:Nat) (first:List Nat):List Bool:=passes t but n n (start but n first)

theorem has_set {out:List Bool} {j v:Nat} {b:Bool} : has (out.set j b) v=if v=j∧j < out.length then b else has out v:=by
 unfold has
 rw [List.getD_eq_getElem?_getD,List.getD_eq_getElem?_getD,List.getElem?_set]
 by_cases h:j=v
 ·subst h
  by_cases hl:j < out.length
  ·simp [hl]
  ·simp [hl]
 ·rw [if_neg h,if_neg (fun hh=>h hh.1.symm)]
def Le (a b:List Bool):Prop:=a.length=b.length∧∀ v,has a v=true→has b v=true
theorem Le.refl (a:List Bool):Le a a:=⟨rfl,fun _ h=>h⟩
theorem Le.trans {a b c:List Bool} (h:Le a b) (k:Le b c):Le a c:=⟨h.1.trans k.1,fun v hv=>k.2 v (h.2 v hv)⟩
theorem mark_le (but:Int) (out:List Bool) (j:Nat):Le out (mark but out j):=by
 refine ⟨by unfold mark;rw [List.length_set],fun v hv=>?_⟩
 unfold mark
 rw [has_set]
 split
 ·rename_i h
  rw [← h.1,hv]
  rfl
 ·exact hv
theorem foldl_le {α:Type} (g:List Bool→α→List Bool) (hg:∀ o a,Le o (g o a)):∀ (l:List α) (o:List Bool),Le o (l.foldl g o)
 | [],o=>Le.refl o
 | a :: l,o=>(hg o a).trans (foldl_le g hg l (g o a))
theorem goes_le (t:Nat→List Nat) (but:Int) (out:List Bool) (i:Nat):Le out (goes t but out i):=by
 unfold goes
 split
 ·exact foldl_le _ (mark_le but) _ _
 ·exact Le.refl _
theorem pass_le (t:Nat→List Nat) (but:Int) (n:Nat) (out:List Bool):Le out (pass t but n out):=foldl_le _ (goes_le t but) _ _
theorem passes_le (t:Nat→List Nat) (but:Int) (n:Nat):∀ (k:Nat) (out:List Bool),Le out (passes t but n k out)
 | 0,out=>Le.refl out
 | k+1,out=>(pass_le t but n out).trans (passes_le t but n k _)
def Snd (t:Nat→List Nat) (but:Int) (first:List Nat) (out:List Bool):Prop:=∀ v,has out v=true→Way t but first v
theorem marks_snd {t:Nat→List Nat} {but:Int} {first:List Nat} {i:Nat} (hi:Way t but first i):∀ (l:List Nat) (out:List Bool),(∀ j∈l,j∈t i)→Snd t but first out→Snd t but first (l.foldl (mark but) out)
 | [],_,_,h=>h
 | j :: l,out,hl,h=>marks_snd hi l _ (fun k hk=>hl k (by simp [hk])) fun v hv=>by
  unfold mark at hv
  rw [has_set] at hv
  split at hv
  ·rename_i hc
   rw [hc.1]
   simp only [Bool.or_eq_true,decide_eq_true_eq] at hv
   rcases hv with hv | hv
   ·exact h j hv
   ·exact .step hi (hl j (by simp)) hv
  ·exact h v hv
theorem goes_snd {t:Nat→List Nat} {but:Int} {first:List Nat} {out:List Bool} (i:Nat) (h:Snd t but first out):Snd t but first (goes t but out i):=by
 unfold goes
 split
 ·rename_i hi
  exact marks_snd (h i hi) _ _ (fun _ h=>h) h
 ·exact h
theorem pass_snd {t:Nat→List Nat} {but:Int} {first:List Nat} {n:Nat} {out:List Bool} (h:Snd t but first out):Snd t but first (pass t but n out):=by
 unfold pass
 generalize List.range n=l
 induction l generalizing out with
 | nil=>exact h
 | cons i l ih=>exact ih (goes_snd i h)
theorem passes_snd {t:Nat→List Nat} {but:Int} {first:List Nat} {n:Nat} : ∀ (k:Nat) {out:List Bool},Snd t but first out→Snd t but first (passes t but n k out)
 | 0,_,h=>h
 | k+1,_,h=>passes_snd k (pass_snd h)
theorem start_len (but:Int) (n:Nat) (first:List Nat):(start but n first).length=n:=by
 unfold start
 have:∀ (l:List Nat) (o:List Bool),(l.foldl (begin but) o).length=o.length:=by
  intro l
  induction l with
  | nil=>intro o;rfl
  | cons f l ih=>intro o;rw [List.foldl_cons,ih];unfold begin;rw [List.length_set]
 rw [this,List.length_replicate]
theorem start_has (but:Int) {n:Nat} {first:List Nat} (hf:∀ a∈first,a < n) (v:Nat):has (start but n first) v=true↔v∈first∧(v:Int)≠but:=by
 have key:∀ (l:List Nat) (o:List Bool),(∀ a∈l,a < o.length)→(has (l.foldl (begin but) o) v=true↔(v∈l∧(v:Int)≠but)∨(v∉l∧has o v=true)):=by
  intro l
  induction l with
  | nil=>intro o _;simp
  | cons f l ih =>
   intro o hl
   rw [List.foldl_cons,ih _ (fun a ha=>by unfold begin;rw [List.length_set];exact hl a (by simp [ha]))]
   have hfl:=hl f (by simp)
   unfold begin
   rw [has_set]
   by_cases hv:v∈l
   ·simp [hv]
   ·by_cases hvf:v=f
    ·subst hvf
     simp [hv,hfl]
    ·simp [hv,hvf]
 unfold start
 rw [key first _ (fun a ha=>by rw [List.length_replicate];exact hf a ha)]
 have h0:has (List.replicate n false) v=false:=by
  unfold has
  rw [List.getD_eq_getElem?_getD,List.getElem?_replicate]
  split<;>rfl
 rw [h0]
 simp
theorem marks_all {but:Int} : ∀ (l:List Nat) (out:List Bool) (j:Nat),j∈l→j < out.length→(j:Int)≠but→has (l.foldl (mark but) out) j=true
 | k :: l,out,j,hj,hlt,hne=>by
  rw [List.foldl_cons]
  rcases List.mem_cons.1 hj with rfl | hj
  ·refine (foldl_le _ (mark_le but) l _).2 j ?_
   unfold mark
   rw [has_set,if_pos ⟨rfl,hlt⟩]
   simp [hne]
  ·exact marks_all l _ j hj (by unfold mark;rw [List.length_set];exact hlt) hne
theorem pass_all {t:Nat→List Nat} {but:Int} {n:Nat} {out:List Bool} {i j:Nat} (hi:i < n) (hm:has out i=true) (hj:j∈t i) (hlt:j < out.length) (hne:(j:Int)≠but):has (pass t but n out) j=true:=by
 unfold pass
 have key:∀ (l:List Nat) (o:List Bool),i∈l→has o i=true→j < o.length→has (l.foldl (goes t but) o) j=true:=by
  intro l
  induction l with
  | nil=>intro o h;cases h
  | cons k l ih =>
   intro o h hm hlt
   rw [List.foldl_cons]
   rcases List.mem_cons.1 h with rfl | h
   ·refine (foldl_le _ (goes_le t but) l _).2 j ?_
    unfold goes
    rw [if_pos hm]
    exact marks_all _ _ j hj hlt hne
   ·exact ih _ h ((goes_le t but o k).2 i hm) (by rw [← (goes_le t but o k).1];exact hlt)
 exact key _ _ (List.mem_range.2 hi) hm hlt
def Closed (t:Nat→List Nat) (but:Int) (n:Nat) (out:List Bool):Prop:=∀ i,i < n→has out i=true→∀ j∈t i,(j:Int)≠but→has out j=true
theorem closed_le {t:Nat→List Nat} {but:Int} {n:Nat} {out:List Bool} (h:Closed t but n out):∀ v,has (pass t but n out) v=true→has out v=true:=by
 have hm:∀ (l:List Nat) (o:List Bool) (i:Nat),i < n→has out i=true→(∀ j∈l,j∈t i)→(∀ v,has o v=true→has out v=true)→∀ v,has (l.foldl (mark but) o) v=true→has out v=true:=by
  intro l
  induction l with
  | nil=>intro o i _ _ _ ho;exact ho
  | cons k l ih =>
   intro o i hi hh hl' ho
   refine ih _ i hi hh (fun j hj=>hl' j (by simp [hj])) fun v hv=>?_
   unfold mark at hv
   rw [has_set] at hv
   split at hv
   ·rename_i hc
    rw [hc.1]
    simp only [Bool.or_eq_true,decide_eq_true_eq] at hv
    rcases hv with hv | hv
    ·exact ho k hv
    ·exact h i hi hh k (hl' k (by simp)) hv
   ·exact ho v hv
 unfold pass
 have key:∀ (l:List Nat) (o:List Bool),(∀ i∈l,i < n)→(∀ v,has o v=true→has out v=true)→∀ v,has (l.foldl (goes t but) o) v=true→has out v=true:=by
  intro l
  induction l with
  | nil=>intro o _ ho;exact ho
  | cons i l ih =>
   intro o hl' ho
   refine ih _ (fun j hj=>hl' j (by simp [hj])) fun v hv=>?_
   unfold goes at hv
   split at hv
   ·rename_i hi
    exact hm (t i) o i (hl' i (by simp)) (ho i hi) (fun _ h=>h) ho v hv
   ·exact ho v hv
 exact key _ _ (fun i hi=>List.mem_range.1 hi) (fun _ h=>h)
theorem closed_pass {t:Nat→List Nat} {but:Int} {n:Nat} {out:List Bool} (h:Closed t but n out):Closed t but n (pass t but n out):=fun i hi hm j hj hne =>
 (pass_le t but n out).2 j (h i hi (closed_le h i hm) j hj hne)
theorem closed_passes {t:Nat→List Nat} {but:Int} {n:Nat} : ∀ (k:Nat) {out:List Bool},out.length=n→Closed t but n out→Closed t but n (passes t but n k out)
 | 0,_,_,h=>h
 | k+1,out,hl,h=>closed_passes k ((pass_le t but n out).1.symm.trans hl) (closed_pass h)
def many (out:List Bool):Nat:=out.countP id
theorem many_le (out:List Bool):many out≤out.length:=List.countP_le_length
theorem many_mono:∀ {a b:List Bool},Le a b→many a≤many b∧((∃ v,has a v=false∧has b v=true)→many a < many b)
 | [],[],_=>⟨Nat.le_refl _,fun ⟨v,_,h⟩=>by simp [has] at h⟩
 | [],_ :: _,h=>by have:=h.1;simp at this
 | _ :: _,[],h=>by have:=h.1;simp at this
 | x :: a,y :: b,h=>by
  have hab:Le a b:=⟨by have:=h.1;simpa using this,fun v hv=>by have:=h.2 (v+1);simpa [has] using this (by simpa [has] using hv)⟩
  obtain ⟨h1,h2⟩:=many_mono hab
  have hxy:x=true→y=true:=fun e=>by have:=h.2 0;simpa [has] using this (by simpa [has] using e)
  unfold many at h1 h2 ⊢
  rw [List.countP_cons,List.countP_cons]
  constructor
  ·cases x<;>cases y<;>simp at hxy ⊢<;>omega
  ·rintro ⟨v,hv1,hv2⟩
   cases v with
   | zero =>
    have e1:x=false:=by simpa [has] using hv1
    have e2:y=true:=by simpa [has] using hv2
    subst e1
    subst e2
    simp
    omega
   | succ v =>
    have:=h2 ⟨v,by simpa [has] using hv1,by simpa [has] using hv2⟩
    cases x<;>cases y<;>simp at hxy ⊢<;>omega
theorem passes_closed {t:Nat→List Nat} {but:Int} {n:Nat} (ht:∀ i,i < n→∀ j∈t i,j < n):∀ (k:Nat) (out:List Bool),out.length=n→n+1≤k+many out∨many out=0→Closed t but n (passes t but n k out)
 | k,out,hl,.inr h0=>closed_passes k hl fun i hi hm=>by
  have:0 < many out:=by
   unfold many
   rw [List.countP_pos_iff]
   refine ⟨true,?_,rfl⟩
   unfold has at hm
   rw [List.getD_eq_getElem?_getD,List.getElem?_eq_getElem (by omega)] at hm
   simp at hm
   exact hm ▸ List.getElem_mem _
  omega
 | 0,out,hl,.inl h=>by
  have:=many_le out
  omega
 | k+1,out,hl,.inl h=>by
  by_cases hc:Closed t but n out
  ·exact closed_passes (k+1) hl hc
  ·have hl' : (pass t but n out).length=n:=(pass_le t but n out).1.symm.trans hl
   refine passes_closed ht k _ hl' (.inl ?_)
   have:∃ v,has out v=false∧has (pass t but n out) v=true:=by
    refine Classical.byContradiction fun hno=>hc fun i hi hm j hj hne=>?_
    refine Classical.byContradiction fun hf=>hno ⟨j,by simpa using hf,pass_all hi hm hj (by rw [hl];exact ht i hi j hj) hne⟩
   have:=(many_mono (pass_le t but n out)).2 this
   omega
theorem come_iff {t:Nat→List Nat} {but:Int} {n:Nat} {first:List Nat} (ht:∀ i,i < n→∀ j∈t i,j < n) (hf:∀ a∈first,a < n) (v:Nat):has (comeO t but n first) v=true↔Way t but first v:=by
 have hlt:∀ {u},Way t but first u→u < n:=by
  intro u hu
  induction hu with
  | start ha _=>exact hf _ ha
  | step _ hc _ ih=>exact ht _ ih _ hc
 have hs0:Snd t but first (start but n first):=fun u hu=>by
  obtain ⟨h1,h2⟩:=(start_has but hf u).1 hu
  exact .start h1 h2
 have hcl:Closed t but n (comeO t but n first):=by
  refine passes_closed ht n _ (start_len but n first) ?_
  by_cases h0:many (start but n first)=0
  ·exact .inr h0
  ·exact .inl (by omega)
 constructor
 ·exact passes_snd n hs0 v
 ·intro h
  induction h with
  | start ha hne=>exact (passes_le t but n n _).2 _ ((start_has but hf _).2 ⟨ha,hne⟩)
  | step hb hc hne ih=>exact hcl _ (hlt hb) ih _ hc hne
end Go.Proofs.YtpejpnffcepdlaaGreatDoor.FwC
namespace Go.Proofs.YtpejpnffcepdlaaGreatDoor.FxL

def rnd (Φ:(Nat→Bool)→Nat→Bool):Nat→Nat→Bool
 | 0=>fun _=>false
 | k+1=>Φ (rnd Φ k)
variable {Φ:(Nat→Bool)→Nat→Bool}
end Go.Proofs.YtpejpnffcepdlaaGreatDoor.FxL
namespace Go.Proofs.YtpejpnffcepdlaaGreatDoor.LgX
open TyM ShM

theorem uses_len {x:Ix} (h:x.args.length≤16):(usesOf x).length≤20:=by
 unfold usesOf
 simp only [List.length_append]
 split<;>split<;>split<;>simp<;>omega
end Go.Proofs.YtpejpnffcepdlaaGreatDoor.LgX
namespace Go.Proofs.YtpejpnffcepdlaaGreatDoor.ShN
open TyM ShM

theorem lowB_cons {m a:Int} {l:List Int} : lowB m (a :: l)=(decide (0≤a∧a < m) && lowB m l):=by
 unfold lowB;rw [List.all_cons]
theorem lowB_none {m:Int} : lowB m []=true:=rfl
theorem t0 {nt nr nf nb n:Int} : toldV (limL nt nr nf nb) 0 n=0↔n=0:=by
 unfold toldV toldB limL
 have e:(decide ((0:Int)=1) || (decide (0≤n) && decide (n < List.getD [1,0,nt,nr,nf,nb,8] (Int.toNat 0) 0)))=decide (n=0):=by
  rw [Bool.eq_iff_iff];simp;omega
 rw [e];by_cases h:n=0<;>simp [h]
theorem t1 {nt nr nf nb n:Int} : toldV (limL nt nr nf nb) 1 n=1:=by
 unfold toldV toldB;simp
theorem tv {nt nr nf nb n w m:Int} (hw:w≠1) (h7:w≠7) (hm:(limL nt nr nf nb).getD w.toNat 0=m):toldV (limL nt nr nf nb) w n=w↔0≤n∧n < m:=by
 unfold toldV toldB
 rw [hm]
 by_cases h:0≤n∧n < m
 ·simp [h]
 ·have:(decide (w=1) || (decide (0≤n) && decide (n < m)))=false:=by
   rw [Bool.eq_false_iff];simp [hw];omega
  rw [this];simp [h];omega
theorem t2 {nt nr nf nb n:Int} : toldV (limL nt nr nf nb) 2 n=2↔0≤n∧n < nt:=tv (by decide) (by decide) rfl
theorem t3 {nt nr nf nb n:Int} : toldV (limL nt nr nf nb) 3 n=3↔0≤n∧n < nr:=tv (by decide) (by decide) rfl
theorem t4 {nt nr nf nb n:Int} : toldV (limL nt nr nf nb) 4 n=4↔0≤n∧n < nf:=tv (by decide) (by decide) rfl
theorem t5 {nt nr nf nb n:Int} : toldV (limL nt nr nf nb) 5 n=5↔0≤n∧n < nb:=tv (by decide) (by decide) rfl
theorem t6 {nt nr nf nb n:Int} : toldV (limL nt nr nf nb) 6 n=6↔0≤n∧n < 8:=tv (by decide) (by decide) rfl

theorem mayE_eq {nt nr nf nb:Int} {x:Ex} (h0:0≤x.kind):mayE (limL nt nr nf nb) x=mayER nr nb x:=by
 obtain ⟨k,a,to,els⟩:=x
 simp only at h0
 by_cases h:k < 4
 ·have:k=0∨k=1∨k=2∨k=3:=by omega
  rw [Bool.eq_iff_iff]
  rcases this with rfl | rfl | rfl | rfl <;>
   simp [mayE,mayER,thereE,hasEOf,rowsE,hasE0,t0,t3,t5,lowB]<;>omega
 ·have hk:k≠1∧k≠2∧k≠3:=by omega
  simp [mayE,mayER,hasEOf_over (show 4≤k by omega),hk]

theorem r0:hasOf 0=⟨0,0,0,0,0,0,0⟩:=rfl
theorem r1:hasOf 1=⟨2,0,0,1,0,0,0⟩:=rfl
theorem r2:hasOf 2=⟨2,0,0,0,0,0,0⟩:=rfl
theorem r3:hasOf 3=⟨2,0,0,4,0,0,0⟩:=rfl
theorem r4:hasOf 4=⟨2,3,3,0,0,0,0⟩:=rfl
theorem r5:hasOf 5=⟨2,3,3,0,0,0,0⟩:=rfl
theorem r6:hasOf 6=⟨2,3,3,0,0,0,0⟩:=rfl
theorem r7:hasOf 7=⟨2,3,3,0,0,0,0⟩:=rfl
theorem r8:hasOf 8=⟨2,3,3,0,0,0,0⟩:=rfl
theorem r9:hasOf 9=⟨2,3,3,0,0,0,0⟩:=rfl
theorem r10:hasOf 10=⟨2,3,3,0,0,0,0⟩:=rfl
theorem r11:hasOf 11=⟨2,0,0,0,0,0,0⟩:=rfl
theorem r12:hasOf 12=⟨2,0,0,0,0,0,0⟩:=rfl
theorem r13:hasOf 13=⟨0,3,0,0,0,0,0⟩:=rfl
theorem r14:hasOf 14=⟨2,3,0,6,0,0,0⟩:=rfl
theorem r15:hasOf 15=⟨2,3,3,0,0,0,0⟩:=rfl
theorem r16:hasOf 16=⟨2,3,0,0,0,0,0⟩:=rfl
theorem r17:hasOf 17=⟨0,3,3,0,0,0,0⟩:=rfl
theorem r18:hasOf 18=⟨2,0,0,4,0,4,0⟩:=rfl
theorem r19:hasOf 19=⟨2,3,0,0,0,4,0⟩:=rfl
theorem r20:hasOf 20=⟨2,0,0,0,0,0,0⟩:=rfl
theorem r21:hasOf 21=⟨0,3,0,0,0,0,0⟩:=rfl
theorem r22:hasOf 22=⟨2,0,0,0,1,16,1⟩:=rfl

theorem mayI_iff {L:List Int} {x:Ix} : mayI L x=true↔¬ hasOf x.op=has0∧thereOf L x=hasOf x.op∧(x.frm.length:Int)=(hasOf x.op).per * x.args.length∧lowB (L.getD 3 0) x.args=true∧lowB (L.getD 5 0) x.frm=true:=by
 unfold mayI
 by_cases h1:hasOf x.op=has0∨thereOf L x≠hasOf x.op∨(x.frm.length:Int)≠(hasOf x.op).per * x.args.length
 ·rw [if_pos h1]
  constructor
  ·intro h;cases h
  ·rintro ⟨a,b,c,_⟩
   rcases h1 with h | h | h
   ·exact absurd h a
   ·exact absurd b h
   ·exact absurd c h
 ·rw [if_neg h1,Bool.and_eq_true]
  obtain ⟨a,b⟩:=not_or.1 h1
  obtain ⟨b,c⟩:=not_or.1 b
  exact ⟨fun h=>⟨a,Classical.not_not.1 b,Classical.not_not.1 c,h⟩,fun h=>h.2.2.2⟩

theorem mayI_eq {nt nr nf nb:Int} {x:Ix} (h0:0≤x.op):mayI (limL nt nr nf nb) x=mayIR nt nr nf nb x:=by
 obtain ⟨op,typ,a,b,n,args,frm⟩:=x
 simp only at h0
 have e3:(limL nt nr nf nb).getD 3 0=nr:=rfl
 have e5:(limL nt nr nf nb).getD 5 0=nb:=rfl
 by_cases h:op < 23
 ·have:op=0∨op=1∨op=2∨op=3∨op=4∨op=5∨op=6∨op=7∨op=8∨op=9∨op=10∨op=11∨op=12∨op=13∨op=14∨op=15∨op=16∨op=17∨op=18∨op=19∨op=20∨op=21∨op=22:=by omega
  rw [Bool.eq_iff_iff,mayI_iff]
  unfold mayIR
  rw [e3,e5]
  clear e3 e5 h h0
  generalize ha:lowB nr args=P
  generalize hf:lowB nb frm=Q
  have hP:args.length=0→P=true:=by intro h;rw [← ha,List.length_eq_zero_iff.1 h];rfl
  have hQ:frm.length=0→Q=true:=by intro h;rw [← hf,List.length_eq_zero_iff.1 h];rfl
  simp only [thereOf,has_eq,usesOf]
  generalize args.length=la at *
  generalize frm.length=lf at *
  rcases this with rfl | rfl | rfl | rfl | rfl | rfl | rfl | rfl | rfl | rfl | rfl | rfl | rfl | rfl | rfl | rfl | rfl | rfl | rfl | rfl | rfl | rfl | rfl <;>
   simp [r0,r1,r2,r3,r4,r5,r6,r7,r8,r9,r10,r11,r12,r13,r14,r15,r16,r17,r18,r19,r20,r21,r22,has0,t0,t1,t2,t3,t4,t6,hasAB,twoB,argsB,answersB,mayNR,lowB_cons,lowB_none,ha] <;>
   (cases P<;>cases Q<;>simp at hP hQ ⊢<;>try omega)
 ·simp [mayI,mayIR,hasOf_over (show 23≤op by omega)]
  omega
end Go.Proofs.YtpejpnffcepdlaaGreatDoor.ShN
