/- What Mark answers: 'mkN'. Walk over lex.Mark. Plain facts of reading: what words tell. Plain facts of reading, whole: what an instruction has, instructions, blocks, functions, programs; the same as a reader goes, word by word. Plain facts of reading: blocks, functions and programs, of lines. -/
import Derived.Test.YtpejpnffcepdlaaGreatDoorVLxKToLxL
import Derived.Test.YtpejpnffcepdlaaGreatDoorVNumRPToNumS
import Derived.Test.YtpejpnffcepdlaaGreatDoorVNumEToNumG
import Derived.Test.YtpejpnffcepdlaaGreatDoorVTyMToShN
set_option maxRecDepth 100000
set_option maxHeartbeats 16000000
namespace Go.Proofs.YtpejpnffcepdlaaGreatDoor.LxY
open Go.RowKit Go.Lib LxM LxP LxK LxJ NumP NumQ NumR NumG

def mkN (s:ByteArray) (c:UInt8):Int × Int:=match un s with
 | []=>(0,10)
 | x :: t=>if x=c then NumG.sm t 999 else (0,10)
def MkR (s:ByteArray) (c:UInt8) (w:World) (e:Ending) (w' : World):Prop:=e=.returned (.tuple #[.int .i64 (mkN s c).1,.int .i64 (mkN s c).2])∧Below w.heap.size w w'
theorem mkN_nil {s:ByteArray} {c:UInt8} (h:s.size=0):mkN s c=(0,10):=by
 unfold mkN
 have:un s=[]:=List.eq_nil_of_length_eq_zero (by rw [un_len];exact h)
 rw [this]
theorem un_cons {s:ByteArray} (h:0 < s.size):un s=s[0] :: un (s.extract 1 s.size):=by
 obtain ⟨h2,e⟩:=at_byte h
 rw [show un (s.extract 1 s.size)=_ from Lib.extract_data s 1 s.size,List.take_of_length_le (by rw [List.length_drop,un_len];omega)]
 have:=List.drop_eq_getElem_cons h2
 rw [List.drop_zero,e] at this
 exact this
theorem mkN_no {s:ByteArray} {c:UInt8} (h:0 < s.size) (hc:s[0]≠c):mkN s c=(0,10):=by
 unfold mkN
 rw [un_cons h]
 exact if_neg hc
theorem mkN_yes {s:ByteArray} {c:UInt8} (h:0 < s.size) (hc:s[0]=c):mkN s c=NumG.sm (un (s.extract 1 s.size)) 999:=by
 unfold mkN
 rw [un_cons h]
 exact if_pos hc
end Go.Proofs.YtpejpnffcepdlaaGreatDoor.LxY
namespace Go.Proofs.YtpejpnffcepdlaaGreatDoor.LxY
open Go.RowKit Go.Lib LxM LxP LxK LxJ NumP NumQ NumR NumG

theorem mark_calls (s:ByteArray) (hs:s.size≤9223372036854775807) (c:UInt8) (w:World) :
  Calls Tryz.prog 185 #[.string s,.int .u8 (c.toNat:Int)] w (MkR s c w):=by
 have h255:=u8_le c
 by_cases h0:s.size=0
 ·have HE:=hid (mkN_nil (c:=c) h0)
  have hse:s=⟨#[]⟩:=by
   apply ByteArray.ext
   exact Array.eq_empty_of_size_eq_zero h0
  subst hse
  go_enter Tryz.func185,Tryz.ntmps185
  go_wp2
  go_ret2
  exact ⟨by rw [HE.out];rfl,Below.refl _ _⟩
 ·have hpos:0 < s.size:=by omega
  have hne:s.toList.isEmpty=false:=by
   rw [Lib.toList_data]
   show (un s).isEmpty=false
   rw [un_cons hpos];rfl
  by_cases hc:s[0]=c
  ·have HE:=hid (mkN_yes hpos hc)
   have hcc:((s[0].toNat:Int) != (c.toNat:Int))=false:=by simp [hc]
   have hsx:(s.extract 1 s.size).size≤9223372036854775807:=by rw [ByteArray.size_extract];omega
   have HC:=hid (small_calls (s.extract 1 s.size) hsx 999 w)
   unfold SmPost at HC
   clear hc
   go_enter Tryz.func185,Tryz.ntmps185
   go_wp2_with fail
   refine HC.out.mono ?_
   rintro e w1 ⟨rfl,hb⟩
   clear HC
   generalize NumG.sm (un (s.extract 1 s.size)) 999=r at *
   go_wp2
   go_ret2
   exact ⟨by rw [HE.out];rfl,hb⟩
  ·have HE:=hid (mkN_no hpos hc)
   have hcc:((s[0].toNat:Int) != (c.toNat:Int))=true:=by
    simp only [bne_iff_ne,ne_eq]
    intro e
    exact hc (UInt8.toNat_inj.1 (by omega))
   clear hc
   go_enter Tryz.func185,Tryz.ntmps185
   go_wp2
   go_ret2
   exact ⟨by rw [HE.out];rfl,Below.refl _ _⟩
end Go.Proofs.YtpejpnffcepdlaaGreatDoor.LxY
namespace Go.Proofs.YtpejpnffcepdlaaGreatDoor.RdM
open Go.RowKit Go.Lib TyM ShM LxM LxP LxK LxJ LxY

def marksO (c:UInt8):List ByteArray→Option (List Int)
 | []=>some []
 | x :: l=>if (mkN x c).2=0 then (marksO c l).map ((mkN x c).1 :: ·) else none
theorem marks_len {c:UInt8} : ∀ {l:List ByteArray} {a:List Int},marksO c l=some a→a.length=l.length
 | [],a,h=>by cases h;rfl
 | y :: l,a,h=>by
  unfold marksO at h
  split at h
  ·cases hl:marksO c l with
   | none=>rw [hl] at h;cases h
   | some b=>rw [hl] at h;cases h;simp [marks_len hl]
  ·cases h

def wordsL:List (List UInt8):=[[],[105,110,116],[110,117,108,108],[102,110],[97,100,100],[115,117,98],[109,117,108],[100,105,118],[108,101,115,115],[101,113],[115,97,109,101],[110,101,119],[108,111,99,97,108],[102,114,101,101],[102,105,101,108,100],[101,108,101,109],[108,111,97,100],[115,116,111,114,101],[99,97,108,108],[105,99,97,108,108],[114,101,97,100],[112,114,105,110,116],[112,104,105]]
def isWord (s:List UInt8) (j:Nat):Bool:=decide (1≤j) && decide (wordsL.getD j []=s)
def opOf (s:List UInt8):Nat:=((List.range 23).find? (isWord s)).getD 0
theorem op_at {s:List UInt8} {k:Nat} (h1:1≤k) (h2:k < 23) (hw:wordsL.getD k []=s) (hb:∀ j,1≤j→j < k→wordsL.getD j []≠s):opOf s=k:=by
 have:(List.range 23).find? (isWord s)=some k:=by
  rw [List.find?_range_eq_some]
  refine ⟨by unfold isWord;rw [hw];simp [h1],by simpa using h2,fun j hj=>?_⟩
  unfold isWord
  by_cases hj1:1≤j
  ·rw [decide_eq_false (hb j hj1 hj)];simp
  ·simp [hj1]
 unfold opOf
 rw [this];rfl
theorem op_none {s:List UInt8} (hb:∀ j,1≤j→j < 23→wordsL.getD j []≠s):opOf s=0:=by
 have:(List.range 23).find? (isWord s)=none:=by
  rw [List.find?_eq_none]
  intro j hj
  have hj2:j < 23:=List.mem_range.1 hj
  unfold isWord
  by_cases hj1:1≤j
  ·rw [decide_eq_false (hb j hj1 hj2)];simp
  ·simp [hj1]
 unfold opOf
 rw [this];rfl
theorem op_le (s:List UInt8):opOf s≤22:=by
 unfold opOf
 cases h:(List.range 23).find? (isWord s) with
 | none=>simp
 | some k =>
  have:=List.mem_range.1 (List.mem_of_find?_eq_some h)
  simp only [Option.getD_some]
  omega
def hasNB (op:Int):Bool:=decide (op=1∨op=3∨op=14∨op=18)
def numP (op:Int) (s:ByteArray):Int × Bool :=
 if op=1 then ((NumP.rd (un s)).1,decide ((NumP.rd (un s)).2=0))
 else if op=14 then ((NumG.sm (un s) 999).1,decide ((NumG.sm (un s) 999).2=0))
 else ((mkN s 102).1,decide ((mkN s 102).2=0))
def isEndB (s:List UInt8):Bool:=decide (s=[106,117,109,112]) || (decide (s=[98,114,97,110,99,104]) || decide (s=[114,101,116,117,114,110]))
def endP (l:List ByteArray):Option Ex :=
 if un (l.getD 0 ⟨#[]⟩)=[106,117,109,112] then (match marksO 98 (l.drop 1) with
  | some [t]=>some ⟨1,0,t,0⟩
  | _=>none)
 else if l.length < 2 then none
 else if un (l.getD 0 ⟨#[]⟩)=[114,101,116,117,114,110] then (if (mkN (l.getD 1 ⟨#[]⟩) 114).2=0∧marksO 98 (l.drop 2)=some [] then some ⟨3,(mkN (l.getD 1 ⟨#[]⟩) 114).1,0,0⟩ else none)
 else if (mkN (l.getD 1 ⟨#[]⟩) 114).2=0 then (match marksO 98 (l.drop 2) with
  | some [t,e]=>some ⟨2,(mkN (l.getD 1 ⟨#[]⟩) 114).1,t,e⟩
  | _=>none) else none
def kindP (l:List ByteArray):Option Ty :=
 if l.length=0 then none
 else if un (l.getD 0 ⟨#[]⟩)=[97,114,114,97,121] then
  (if l.length=3∧(mkN (l.getD 1 ⟨#[]⟩) 116).2=0∧(NumG.sm (un (l.getD 2 ⟨#[]⟩)) 999).2=0 then some ⟨5,(mkN (l.getD 1 ⟨#[]⟩) 116).1,(NumG.sm (un (l.getD 2 ⟨#[]⟩)) 999).1,[]⟩ else none)
 else match marksO 116 (l.drop 1) with
  | none=>none
  | some r =>
   if un (l.getD 0 ⟨#[]⟩)=[105,110,116] then (if r.length=0 then some ⟨1,0,0,[]⟩ else none)
   else if un (l.getD 0 ⟨#[]⟩)=[112,116,114] then (if r.length=1 then some ⟨2,r.getD 0 0,0,[]⟩ else none)
   else if un (l.getD 0 ⟨#[]⟩)=[102,110] then (if 1≤r.length then some ⟨3,r.getD 0 0,0,r.drop 1⟩ else none)
   else if un (l.getD 0 ⟨#[]⟩)=[115,116,114,117,99,116] then some ⟨4,0,0,r⟩
   else none
def pairsO:List ByteArray→Option (List (Int × Int))
 | []=>some []
 | [_]=>none
 | a :: b :: l=>if (mkN a 98).2=0∧(mkN b 114).2=0 then (pairsO l).map (((mkN a 98).1,(mkN b 114).1) :: ·) else none
theorem pairs_len:∀ {l:List ByteArray} {r:List (Int × Int)},pairsO l=some r→l.length=2 * r.length
 | [],r,h=>by cases h;rfl
 | [_],r,h=>by cases h
 | a :: b :: l,r,h=>by
  unfold pairsO at h
  split at h
  ·cases hl:pairsO l with
   | none=>rw [hl] at h;cases h
   | some q=>rw [hl] at h;cases h;have:=pairs_len hl;simp;omega
  ·cases h
def phiP (x:Ix) (l:List ByteArray):Option Ix:=(pairsO l).map fun r=>{ x with args:=r.map Prod.snd,frm:=r.map Prod.fst }
end Go.Proofs.YtpejpnffcepdlaaGreatDoor.RdM
namespace Go.Proofs.YtpejpnffcepdlaaGreatDoor.RdN
open Go.RowKit Go.Lib TyM ShM LxM LxP LxK LxJ LxY RdM

/-! by the document's words -/
def ix0 (op typ:Int):Ix:=⟨op,typ,0,0,0,[],[]⟩
def regsN (op:Int):Nat:=if twoB op=true then 2 else if hasAB op=true then 1 else 0
def restP (op typ a b:Int) (m:List ByteArray):Option Ix :=
 if hasNB op=true then
  (if m.length=0 then none else match marksO 114 (m.drop 1) with
   | none=>none
   | some q=>if (numP op (m.getD 0 ⟨#[]⟩)).2=true∧(m.length=1∨argsB op=true) then some ⟨op,typ,a,b,(numP op (m.getD 0 ⟨#[]⟩)).1,q,[]⟩ else none)
 else match marksO 114 m with
  | none=>none
  | some q=>if m.length=0∨argsB op=true then some ⟨op,typ,a,b,0,q,[]⟩ else none
def hasP (op typ:Int) (l:List ByteArray):Option Ix :=
 if op=22 then phiP (ix0 op typ) l
 else if l.length < regsN op then none
 else match marksO 114 (l.take (regsN op)) with
  | none=>none
  | some r=>restP op typ (if 0 < regsN op then r.getD 0 0 else 0) (if 1 < regsN op then r.getD 1 0 else 0) (l.drop (regsN op))
def opW (l:List ByteArray) (k:Nat):Nat:=opOf (un (l.getD k ⟨#[]⟩))
def insP (l:List ByteArray) (reg:Int):Option Ix :=
 if 3 < l.length∧un (l.getD 2 ⟨#[]⟩)=[61] then
  (if (mkN (l.getD 0 ⟨#[]⟩) 114).2=0∧(mkN (l.getD 1 ⟨#[]⟩) 116).2=0∧(mkN (l.getD 0 ⟨#[]⟩) 114).1=reg∧answersB (opW l 3)=true then hasP (opW l 3) (mkN (l.getD 1 ⟨#[]⟩) 116).1 (l.drop 4) else none)
 else if opW l 0=0∨answersB (opW l 0)=true then none
 else hasP (opW l 0) 0 (l.drop 1)

/-! as a reader goes: a line's words -/
def wordC:List ByteArray→Option (ByteArray × List ByteArray)
 | []=>none
 | x :: l=>some (x,l)
def markC (c:UInt8):List ByteArray→Option (Int × List ByteArray)
 | []=>none
 | x :: l=>if (mkN x c).2=0 then some ((mkN x c).1,l) else none
def smallC:List ByteArray→Option (Int × List ByteArray)
 | []=>none
 | x :: l=>if (NumG.sm (un x) 999).2=0 then some ((NumG.sm (un x) 999).1,l) else none
def numC (op:Int) (l:List ByteArray):Option (Int × List ByteArray) :=
 if hasNB op=true then (match l with
  | []=>none
  | x :: l=>if (numP op x).2=true then some ((numP op x).1,l) else none)
 else some (0,l)
theorem markC_nil (c:UInt8):markC c []=none:=rfl
theorem markC_cons (c:UInt8) (x:ByteArray) (l:List ByteArray):markC c (x :: l)=if (mkN x c).2=0 then some ((mkN x c).1,l) else none:=rfl
theorem smallC_nil:smallC []=none:=rfl
theorem smallC_cons (x:ByteArray) (l:List ByteArray):smallC (x :: l)=if (NumG.sm (un x) 999).2=0 then some ((NumG.sm (un x) 999).1,l) else none:=rfl
def done {α:Type} : Option (α × List ByteArray)→Option α
 | some (x,[])=>some x
 | _=>none
def typC (l:List ByteArray):Option (Ty × List ByteArray):=match l with
 | []=>none
 | x :: l =>
  if un x=[105,110,116] then some (⟨1,0,0,[]⟩,l)
  else if un x=[112,116,114] then (match markC 116 l with
   | none=>none
   | some (e,l)=>some (⟨2,e,0,[]⟩,l))
  else if un x=[102,110] then (match markC 116 l with
   | none=>none
   | some (e,l)=>(marksO 116 l).map fun r=>(⟨3,e,0,r⟩,[]))
  else if un x=[115,116,114,117,99,116] then (marksO 116 l).map fun r=>(⟨4,0,0,r⟩,[])
  else if un x=[97,114,114,97,121] then (match markC 116 l with
   | none=>none
   | some (e,l)=>match smallC l with
    | none=>none
    | some (m,l)=>some (⟨5,e,m,[]⟩,l))
  else none
theorem typ_kind (l:List ByteArray):done (typC l)=kindP l:=by
 cases l with
 | nil=>rfl
 | cons x l =>
  unfold typC kindP
  simp only [List.length_cons,Nat.add_eq_zero_iff,Nat.succ_ne_self,and_false,if_false,List.getD_cons_zero,List.drop_succ_cons,List.drop_zero]
  by_cases ha:un x=[97,114,114,97,121]
  ·rw [if_pos ha]
   rw [if_neg (by rw [ha];decide),if_neg (by rw [ha];decide),if_neg (by rw [ha];decide),if_neg (by rw [ha];decide),if_pos ha]
   cases l with
   | nil=>simp [markC,done]
   | cons y l =>
    cases l with
    | nil =>
     rw [markC_cons]
     by_cases h1:(mkN y 116).2=0<;>simp [h1,smallC_nil,done]
    | cons z l =>
     rw [markC_cons]
     simp only [List.length_cons,List.getD_cons_succ,List.getD_cons_zero]
     by_cases h1:(mkN y 116).2=0
     ·by_cases h2:(NumG.sm (un z) 999).2=0
      ·cases l with
       | nil=>simp [h1,h2,done,smallC_cons]
       | cons u l=>simp [h1,h2,done,smallC_cons]
      ·simp [h1,h2,done,smallC_cons]
     ·simp [h1,done]
  ·rw [if_neg ha,if_neg ha]
   by_cases h1:un x=[105,110,116]
   ·rw [if_pos h1]
    cases l with
    | nil=>simp [marksO,done,h1]
    | cons y l =>
     simp only [done]
     cases hm:marksO 116 (y :: l) with
     | none=>rfl
     | some r=>simp [h1,marks_len hm]
   ·rw [if_neg h1]
    by_cases h2:un x=[112,116,114]
    ·rw [if_pos h2]
     cases l with
     | nil=>simp [marksO,markC,done,h2]
     | cons y l =>
      rw [markC_cons]
      by_cases hy:(mkN y 116).2=0
      ·rw [if_pos hy]
       unfold marksO
       rw [if_pos hy]
       cases l with
       | nil=>simp [marksO,done,h2]
       | cons z l =>
        simp only [done]
        cases hm:marksO 116 (z :: l) with
        | none=>simp
        | some r=>simp [h2,marks_len hm]
      ·rw [if_neg hy]
       unfold marksO
       rw [if_neg hy];rfl
    ·rw [if_neg h2]
     by_cases h3:un x=[102,110]
     ·rw [if_pos h3]
      cases l with
      | nil=>simp [marksO,markC,done,h3]
      | cons y l =>
       rw [markC_cons]
       by_cases hy:(mkN y 116).2=0
       ·rw [if_pos hy]
        rw [show marksO 116 (y :: l)=(marksO 116 l).map ((mkN y 116).1 :: ·) by rw [marksO,if_pos hy]]
        cases hm:marksO 116 l with
        | none=>simp [done,hm]
        | some r=>simp [done,hm,h3]
       ·rw [if_neg hy]
        unfold marksO
        rw [if_neg hy];rfl
     ·rw [if_neg h3]
      by_cases h4:un x=[115,116,114,117,99,116]
      ·rw [if_pos h4]
       cases hm:marksO 116 l with
       | none=>simp [done]
       | some r=>simp [done,h4]
      ·rw [if_neg h4]
       cases hm:marksO 116 l with
       | none=>simp [done]
       | some r=>simp [done,h1,h2,h3,h4]

/-! an instruction's numbers -/
def aC (b:Bool) (l:List ByteArray):Option (Int × List ByteArray):=if b=true then markC 114 l else some (0,l)
def argC (op:Int) (l:List ByteArray):Option ((List Int × List Int) × List ByteArray) :=
 if argsB op=true then (if op=22 then (pairsO l).map (fun r=>((r.map Prod.snd,r.map Prod.fst),[])) else (marksO 114 l).map fun r=>((r,[]),[])) else some (([],[]),l)
def restC (op typ a b:Int) (l:List ByteArray):Option (Ix × List ByteArray):=match numC op l with
 | none=>none
 | some (n,l)=>match argC op l with
  | none=>none
  | some ((q,f),l)=>some (⟨op,typ,a,b,n,q,f⟩,l)
def hasC (op typ:Int) (l:List ByteArray):Option (Ix × List ByteArray):=match aC (hasAB op) l with
 | none=>none
 | some (a,l)=>match aC (twoB op) l with
  | none=>none
  | some (b,l)=>restC op typ a b l
theorem rest_eq {op:Int} (h22:op≠22) (typ a b:Int) (m:List ByteArray):done (restC op typ a b m)=restP op typ a b m:=by
 unfold restC restP numC argC
 by_cases hn:hasNB op=true
 ·simp only [hn,if_true]
  cases m with
  | nil=>simp [done]
  | cons x m =>
   simp only [List.length_cons,Nat.add_eq_zero_iff,Nat.succ_ne_self,and_false,if_false,List.getD_cons_zero,List.drop_succ_cons,List.drop_zero]
   by_cases hx:(numP op x).2=true
   ·simp only [hx,if_true]
    by_cases hr:argsB op=true
    ·simp only [hr,if_true,if_neg h22]
     cases hm:marksO 114 m with
     | none=>simp [done]
     | some q=>simp [done]
    ·have hr' : argsB op=false:=by simpa using hr
     simp only [hr',Bool.false_eq_true,if_false]
     cases m with
     | nil=>simp [done,marksO]
     | cons y m =>
      simp only [done]
      cases hm:marksO 114 (y :: m) with
      | none=>rfl
      | some q=>simp
   ·have hx' : (numP op x).2=false:=by simpa using hx
    simp only [hx',Bool.false_eq_true,if_false]
    cases hm:marksO 114 m with
    | none=>simp [done]
    | some q=>simp [done]
 ·have hn' : hasNB op=false:=by simpa using hn
  simp only [hn',Bool.false_eq_true,if_false]
  by_cases hr:argsB op=true
  ·simp only [hr,if_true,if_neg h22]
   cases hm:marksO 114 m with
   | none=>simp [done]
   | some q=>simp [done]
  ·have hr' : argsB op=false:=by simpa using hr
   simp only [hr',Bool.false_eq_true,if_false]
   cases m with
   | nil=>simp [done,marksO]
   | cons y m =>
    simp only [done]
    cases hm:marksO 114 (y :: m) with
    | none=>rfl
    | some q=>simp
theorem two_ab {op:Int} (h:twoB op=true):hasAB op=true:=by unfold hasAB;rw [h];rfl
theorem has_eq (op typ:Int) (l:List ByteArray):done (hasC op typ l)=hasP op typ l:=by
 by_cases h22:op=22
 ·subst h22
  have e1:hasAB 22=false:=by decide
  have e2:twoB 22=false:=by decide
  have e3:hasNB 22=false:=by decide
  have e4:argsB 22=true:=by decide
  unfold hasC hasP restC numC argC aC phiP ix0
  simp only [e1,e2,e3,e4,Bool.false_eq_true,if_false,if_true]
  cases hp:pairsO l with
  | none=>simp [done]
  | some r=>simp [done]
 ·unfold hasC hasP
  rw [if_neg h22]
  unfold regsN aC
  by_cases h2:twoB op=true
  ·simp only [h2,two_ab h2,if_true]
   cases l with
   | nil=>simp [markC,done]
   | cons x l =>
    cases l with
    | nil =>
     rw [markC_cons]
     by_cases hx:(mkN x 114).2=0<;>simp [hx,markC_nil,done]
    | cons y l =>
     simp only [markC_cons]
     simp only [List.length_cons,List.take_succ_cons,List.take_zero,List.drop_succ_cons,List.drop_zero,marksO]
     by_cases hx:(mkN x 114).2=0
     ·by_cases hy:(mkN y 114).2=0
      ·simp only [hx,hy,if_true,Option.map_some,markC_cons]
       rw [if_neg (by omega)]
       refine (rest_eq h22 typ _ _ l).trans ?_
       simp
      ·simp only [hx,hy,if_true,if_false,Option.map_none,markC_cons]
       simp [done]
     ·simp only [hx,if_false]
      simp [done]
  ·have h2' : twoB op=false:=by simpa using h2
   simp only [h2',Bool.false_eq_true,if_false]
   by_cases h1:hasAB op=true
   ·simp only [h1,if_true]
    cases l with
    | nil=>simp [markC,done]
    | cons x l =>
     simp only [markC_cons]
     simp only [List.length_cons,List.take_succ_cons,List.take_zero,List.drop_succ_cons,List.drop_zero,marksO]
     by_cases hx:(mkN x 114).2=0
     ·simp only [hx,if_true,Option.map_some]
      rw [if_neg (by omega)]
      refine (rest_eq h22 typ _ 0 l).trans ?_
      simp
     ·simp only [hx,if_false]
      simp [done]
   ·have h1' : hasAB op=false:=by simpa using h1
    simp only [h1',Bool.false_eq_true,if_false,Nat.not_lt_zero,List.take_zero,marksO,List.drop_zero]
    refine (rest_eq h22 typ 0 0 l).trans ?_
    simp

/-! an instruction's line -/
def opC (s:List UInt8):Option Nat:=if s=[] then some 0 else if opOf s=0 then none else some (opOf s)
def opL:List ByteArray→Option (Nat × List ByteArray)
 | []=>none
 | x :: l=>(opC (un x)).map fun k=>(k,l)
def ins1 (l:List ByteArray) (reg:Int):Option Ix:=match markC 114 l with
 | none=>none
 | some (r,l)=>if r=reg then (match markC 116 l with
   | none=>none
   | some (t,l)=>match wordC l with
    | none=>none
    | some (x,l)=>if un x=[61] then (match opL l with
      | none=>none
      | some (k,l)=>if answersB k=true then done (hasC k t l) else none) else none) else none
def ins2 (l:List ByteArray):Option Ix:=match opL l with
 | none=>none
 | some (k,l)=>if answersB k=true then none else done (hasC k 0 l)
def insC (l:List ByteArray) (reg:Int):Option Ix:=if (mkN (l.getD 0 ⟨#[]⟩) 114).2=0 then ins1 l reg else ins2 l
theorem opC_some {s:List UInt8} {k:Nat} (hs:s≠[]) (h:opOf s=k) (h0:k≠0):opC s=some k:=by unfold opC;rw [if_neg hs,if_neg (by omega),h]
theorem op_word {s:List UInt8} (h:opOf s≠0):∃ k:Fin 23,opOf s=k.val∧wordsL.getD k.val []=s:=by
 unfold opOf at h ⊢
 cases hf:(List.range 23).find? (isWord s) with
 | none=>rw [hf] at h;exact absurd rfl h
 | some k =>
  have hk:=List.mem_range.1 (List.mem_of_find?_eq_some hf)
  have hw:=List.find?_some hf
  unfold isWord at hw
  simp only [Bool.and_eq_true,decide_eq_true_eq] at hw
  exact ⟨⟨k,hk⟩,rfl,hw.2⟩
def mkL (s:List UInt8) (c:UInt8):Int × Int:=match s with
 | []=>(0,10)
 | x :: t=>if x=c then NumG.sm t 999 else (0,10)
theorem mk_un (s:ByteArray) (c:UInt8):mkN s c=mkL (un s) c:=rfl
theorem op_mark:∀ k:Fin 23,(mkL (wordsL.getD k.val []) 114).2≠0:=by decide +kernel
theorem mark_op {x:ByteArray} (h:(mkN x 114).2=0):opOf (un x)=0:=by
 by_cases h0:opOf (un x)=0
 ·exact h0
 ·obtain ⟨k,_,hw⟩:=op_word h0
  rw [mk_un,← hw] at h
  exact absurd h (op_mark k)
theorem eq_mark:(mkL [61] 114).2≠0∧(mkL [61] 98).2≠0∧(mkL [61] 102).2≠0:=by decide +kernel
theorem ins_eq {l:List ByteArray} (h1:1≤l.length) (hne:∀ x∈l,un x≠[]) (reg:Int):insC l reg=insP l reg:=by
 unfold insC insP opW
 cases l with
 | nil=>simp at h1
 | cons x l =>
  simp only [List.getD_cons_zero]
  by_cases hx:(mkN x 114).2=0
  ·rw [if_pos hx]
   have ho:=mark_op hx
   unfold ins1
   simp only [markC_cons,hx,if_true,ho,true_or]
   by_cases hr:(mkN x 114).1=reg
   rotate_left
   ·simp [hr]
   simp only [hr,if_true]
   cases l with
   | nil=>simp [markC_nil]
   | cons y l =>
    simp only [List.getD_cons_succ,List.getD_cons_zero]
    by_cases hy:(mkN y 116).2=0
    rotate_left
    ·simp [hy,markC_cons]
    simp only [hy,if_true,markC_cons]
    cases l with
    | nil=>simp [wordC]
    | cons z l =>
     simp only [wordC,List.getD_cons_succ,List.getD_cons_zero]
     by_cases hz:un z=[61]
     rotate_left
     ·simp only [hz,if_false,and_false]
     simp only [hz,if_true,and_true]
     cases l with
     | nil=>simp [opL]
     | cons u l =>
      have hu:un u≠[]:=hne u (by simp)
      rw [if_pos (by simp)]
      simp only [opL,List.getD_cons_zero,List.drop_succ_cons,List.drop_zero,true_and]
      by_cases h0:opOf (un u)=0
      ·have:answersB ((opOf (un u):Nat):Int)=false:=by rw [h0];decide
       rw [this]
       unfold opC
       rw [if_neg hu,if_pos h0]
       rfl
      ·rw [opC_some hu rfl h0]
       simp only [Option.map_some]
       split
       ·exact has_eq _ _ _
       ·rfl
  ·rw [if_neg hx]
   have hu:un x≠[]:=hne x (by simp)
   unfold ins2
   simp only [opL]
   by_cases h3:3 < (x :: l).length∧un ((x :: l).getD 2 ⟨#[]⟩)=[61]
   ·rw [if_pos h3,if_neg (fun h=>hx h.1)]
    by_cases h0:opOf (un x)=0
    ·unfold opC
     rw [if_neg hu,if_pos h0]
     rfl
    ·rw [opC_some hu rfl h0]
     simp only [Option.map_some]
     by_cases ha:answersB ((opOf (un x):Nat):Int)=true
     ·rw [if_pos ha]
     ·rw [if_neg ha]
      obtain ⟨k,hk,_⟩:=op_word h0
      rw [hk] at ha h0 ⊢
      have hk3:(k.val=13∨k.val=17∨k.val=21):=by
       have hlt:=k.isLt
       unfold answersB at ha
       simp at ha
       omega
      match l,h3 with
      | y :: z :: v :: m,h3 =>
       have hz:un z=[61]:=h3.2
       rcases hk3 with hk3 | hk3 | hk3<;>rw [hk3]<;>rw [has_eq]
       ·unfold hasP
        rw [if_neg (by decide)]
        have:regsN ((13:Nat):Int)=1:=by decide
        rw [this]
        simp only [List.length_cons,List.take_succ_cons,List.take_zero,List.drop_succ_cons,List.drop_zero]
        rw [if_neg (by omega)]
        split
        ·rfl
        ·unfold restP
         rw [if_neg (by decide)]
         split
         ·rfl
         ·rw [if_neg (by simp;decide)]
       ·unfold hasP
        rw [if_neg (by decide)]
        have:regsN ((17:Nat):Int)=2:=by decide
        rw [this]
        simp only [List.length_cons,List.take_succ_cons,List.take_zero,List.drop_succ_cons,List.drop_zero,marksO]
        rw [if_neg (by omega)]
        rw [mk_un z,hz,if_neg (eq_mark.1)]
        simp
       ·unfold hasP
        rw [if_neg (by decide)]
        have:regsN ((21:Nat):Int)=1:=by decide
        rw [this]
        simp only [List.length_cons,List.take_succ_cons,List.take_zero,List.drop_succ_cons,List.drop_zero]
        rw [if_neg (by omega)]
        split
        ·rfl
        ·unfold restP
         rw [if_neg (by decide)]
         split
         ·rfl
         ·rw [if_neg (by simp;decide)]
   ·rw [if_neg h3]
    by_cases h0:opOf (un x)=0
    ·rw [if_pos (.inl h0)]
     unfold opC
     rw [if_neg hu,if_pos h0]
     rfl
    ·rw [opC_some hu rfl h0]
     simp only [Option.map_some]
     by_cases ha:answersB ((opOf (un x):Nat):Int)=true
     ·rw [if_pos ha,if_pos (.inr ha)]
     ·rw [if_neg ha,if_neg (by rintro (h | h);exact h0 h;exact ha h)]
      exact has_eq _ _ _
end Go.Proofs.YtpejpnffcepdlaaGreatDoor.RdN
namespace Go.Proofs.YtpejpnffcepdlaaGreatDoor.RdV
open Go.RowKit Go.Lib TyM ShM LxM LxP LxK LxJ LxY RdM RdN

abbrev Ln:=List ByteArray
def w0 (l:Ln):List UInt8:=un (l.getD 0 ⟨#[]⟩)
def endJ (l:Ln):Option Ex:=match markC 98 l with
 | some (t,[])=>some ⟨1,0,t,0⟩
 | _=>none
def endR (l:Ln):Option Ex:=match markC 114 l with
 | some (a,[])=>some ⟨3,a,0,0⟩
 | _=>none
def endB (l:Ln):Option Ex:=match markC 114 l with
 | none=>none
 | some (a,l)=>match markC 98 l with
  | none=>none
  | some (t,l)=>match markC 98 l with
   | some (e,[])=>some ⟨2,a,t,e⟩
   | _=>none
theorem marks_nil (c:UInt8):marksO c []=some []:=rfl
theorem marks_cons (c:UInt8) (x:ByteArray) (l:List ByteArray):marksO c (x :: l)=if (mkN x c).2=0 then (marksO c l).map ((mkN x c).1 :: ·) else none:=by rw [marksO]
theorem end_j {l:Ln} (h1:1≤l.length) (h:w0 l=[106,117,109,112]):endP l=endJ (l.drop 1):=by
 unfold w0 at h
 unfold endP endJ
 rw [if_pos h]
 cases l with
 | nil=>simp at h1
 | cons x l =>
  simp only [List.drop_succ_cons,List.drop_zero]
  cases l with
  | nil=>rfl
  | cons y l =>
   rw [markC_cons,marks_cons]
   by_cases hy:(mkN y 98).2=0
   ·rw [if_pos hy,if_pos hy]
    cases l with
    | nil=>rfl
    | cons z l =>
     cases hm:marksO 98 (z :: l) with
     | none=>rfl
     | some r =>
      have:=marks_len hm
      cases r with
      | nil=>simp at this
      | cons=>rfl
   ·rw [if_neg hy,if_neg hy]
theorem end_r {l:Ln} (h1:1≤l.length) (h:w0 l=[114,101,116,117,114,110]):endP l=endR (l.drop 1):=by
 unfold w0 at h
 unfold endP endR
 rw [if_neg (by rw [h];decide)]
 cases l with
 | nil=>simp at h1
 | cons x l =>
  cases l with
  | nil=>rfl
  | cons y l =>
   rw [if_neg (by simp),if_pos h]
   simp only [List.getD_cons_succ,List.getD_cons_zero,List.drop_succ_cons,List.drop_zero,markC_cons]
   by_cases hy:(mkN y 114).2=0
   ·cases l with
    | nil=>simp [hy,marks_nil]
    | cons z l =>
     have:marksO 98 (z :: l)≠some []:=fun h=>by
      have:=marks_len h
      simp at this
     simp [hy,this]
   ·simp [hy]
theorem end_b {l:Ln} (h1:1≤l.length) (h:w0 l=[98,114,97,110,99,104]):endP l=endB (l.drop 1):=by
 unfold w0 at h
 unfold endP endB
 rw [if_neg (by rw [h];decide)]
 cases l with
 | nil=>simp at h1
 | cons x l =>
  cases l with
  | nil=>rfl
  | cons y l =>
   rw [if_neg (by simp),if_neg (by rw [h];decide)]
   simp only [List.getD_cons_succ,List.getD_cons_zero,List.drop_succ_cons,List.drop_zero,markC_cons]
   by_cases hy:(mkN y 114).2=0
   ·rw [if_pos hy,if_pos hy]
    cases l with
    | nil=>simp [marks_nil,markC_nil]
    | cons z l =>
     simp only [markC_cons,marks_cons]
     by_cases hz:(mkN z 98).2=0
     ·rw [if_pos hz,if_pos hz]
      cases l with
      | nil=>simp [marks_nil,markC_nil]
      | cons u l =>
       simp only [markC_cons,marks_cons]
       by_cases hu:(mkN u 98).2=0
       ·rw [if_pos hu,if_pos hu]
        cases l with
        | nil=>simp [marks_nil]
        | cons v l =>
         cases hm:marksO 98 (v :: l) with
         | none=>simp
         | some r =>
          have:=marks_len hm
          cases r with
          | nil=>simp at this
          | cons=>simp
       ·rw [if_neg hu,if_neg hu];rfl
     ·rw [if_neg hz,if_neg hz]
   ·rw [if_neg hy,if_neg hy]

def blockP:List Ln→Int→Option (Bx × Nat)
 | [],_=>none
 | l :: L,reg =>
  if isEndB (w0 l)=true then (endP l).map fun e=>(⟨[],e⟩,1)
  else match insP l reg with
   | none=>none
   | some x=>(blockP L (reg+1)).map fun r=>(⟨x :: r.1.ins,r.1.en⟩,r.2+1)
theorem block_len:∀ {L:List Ln} {reg:Int} {b:Bx} {n:Nat},blockP L reg=some (b,n)→n=b.ins.length+1∧n≤L.length
 | [],_,_,_,h=>by cases h
 | l :: L,reg,b,n,h=>by
  unfold blockP at h
  split at h
  ·cases he:endP l with
   | none=>rw [he] at h;cases h
   | some e=>rw [he] at h;cases h;simp
  ·split at h
   ·cases h
   ·cases hb:blockP L (reg+1) with
    | none=>rw [hb] at h;cases h
    | some r =>
     obtain ⟨r,m⟩:=r
     rw [hb] at h;cases h
     have:=block_len hb
     simp only [List.length_cons]
     omega
def blocksP (L:List Ln) (reg:Int):Option (List Bx × Nat) :=
 match L with
 | []=>some ([],0)
 | l :: M =>
  if w0 l=[98,108,111,99,107] then
   (if l.length=1 then (match blockP M reg with
    | none=>none
    | some (b,n)=>match blocksP (M.drop n) (reg+b.ins.length) with
     | none=>none
     | some (bs,m)=>some (b :: bs,1+n+m)) else none)
  else some ([],0)
termination_by L.length
decreasing_by simp;omega
theorem blocks_nil (reg:Int):blocksP [] reg=some ([],0):=by rw [blocksP]
theorem blocks_cons (l : Ln) (M : List Ln) (reg : Int) : blocksP (l :: M) reg = if w0 l = [98, 108, 111, 99, 107] then
      (if l.length=1 then (match blockP M reg with
        | none=>none
        | some (b,n)=>match blocksP (M.drop n) (reg+b.ins.length) with
          | none=>none
          | some (bs,m)=>some (b :: bs,1+n+m)) else none)
  else some ([],0):=by rw [blocksP]
def manyL (bs:List Bx):Nat:=(bs.map fun b=>b.ins.length+2).sum
theorem blocks_len:∀ (k:Nat) {L:List Ln} {reg:Int} {bs:List Bx} {n:Nat},L.length≤k→blocksP L reg=some (bs,n)→n=manyL bs∧n≤L.length
 | 0,L,reg,bs,n,hk,h=>by
  obtain rfl:L=[]:=List.eq_nil_of_length_eq_zero (by omega)
  rw [blocks_nil] at h;cases h
  exact ⟨rfl,Nat.le_refl _⟩
 | k+1,[],reg,bs,n,hk,h=>by
  rw [blocks_nil] at h;cases h
  exact ⟨rfl,Nat.le_refl _⟩
 | k+1,l :: M,reg,bs,n,hk,h=>by
  rw [blocks_cons] at h
  split at h
  ·split at h
   ·cases hb:blockP M reg with
    | none=>rw [hb] at h;cases h
    | some r =>
     obtain ⟨b,n1⟩:=r
     rw [hb] at h
     simp only at h
     cases hc:blocksP (M.drop n1) (reg+b.ins.length) with
     | none=>rw [hc] at h;cases h
     | some r =>
      obtain ⟨bs2,m⟩:=r
      rw [hc] at h
      cases h
      have h1:=block_len hb
      have h2:=blocks_len k (by rw [List.length_drop];simp at hk;omega) hc
      rw [List.length_drop] at h2
      refine ⟨?_,by simp;omega⟩
      unfold manyL
      simp only [List.map_cons,List.sum_cons]
      have:=h2.1
      unfold manyL at this
      omega
   ·cases h
  ·cases h
   exact ⟨rfl,Nat.zero_le _⟩
def regOf (ts:List Ty) (sig:Int):Int:=match ts[sig.toNat]? with
 | some t=>t.parts.length
 | none=>0
def funcP (ts:List Ty) (sig:Int) (L:List Ln):Option (Fx × Nat):=(blocksP L (regOf ts sig)).map fun r=>(⟨sig,r.1⟩,r.2)
theorem func_len {ts:List Ty} {sig:Int} {L:List Ln} {f:Fx} {n:Nat} (h:funcP ts sig L=some (f,n)):n=manyL f.blocks∧n≤L.length:=by
 unfold funcP at h
 cases hb:blocksP L (regOf ts sig) with
 | none=>rw [hb] at h;cases h
 | some r =>
  obtain ⟨bs,m⟩:=r
  rw [hb] at h;cases h
  exact blocks_len _ (Nat.le_refl _) hb
def funcsP (ts:List Ty) (L:List Ln):Option (List Fx) :=
 match L with
 | []=>some []
 | l :: M =>
  if l.length=2∧w0 l=[102,117,110,99] then
   (if (mkN (l.getD 1 ⟨#[]⟩) 116).2=0 then (match funcP ts (mkN (l.getD 1 ⟨#[]⟩) 116).1 M with
    | none=>none
    | some (f,n)=>(funcsP ts (M.drop n)).map fun fs=>f :: fs) else none)
  else none
termination_by L.length
decreasing_by simp;omega
theorem funcs_nil (ts:List Ty):funcsP ts []=some []:=by rw [funcsP]
theorem funcs_cons (ts : List Ty) (l : Ln) (M : List Ln) : funcsP ts (l :: M) = if l.length = 2 ∧ w0 l = [102, 117, 110, 99] then
      (if (mkN (l.getD 1 ⟨#[]⟩) 116).2=0 then (match funcP ts (mkN (l.getD 1 ⟨#[]⟩) 116).1 M with
        | none=>none
        | some (f,n)=>(funcsP ts (M.drop n)).map fun fs=>f :: fs) else none)
  else none:=by rw [funcsP]
def typesP:List Ln→Option (List Ty × List Ln)
 | []=>some ([],[])
 | l :: M=>if w0 l=[116,121,112,101] then (match kindP (l.drop 1) with
   | none=>none
   | some t=>(typesP M).map fun r=>(t :: r.1,r.2)) else some ([],l :: M)
def programP (L:List Ln):Option Px:=match typesP L with
 | none=>none
 | some (ts,M)=>(funcsP ts M).map fun fs=>⟨ts,fs⟩
theorem types_len:∀ {L:List Ln} {ts:List Ty} {M:List Ln},typesP L=some (ts,M)→L.length=ts.length+M.length
 | [],ts,M,h=>by cases h;rfl
 | l :: L,ts,M,h=>by
  unfold typesP at h
  split at h
  ·split at h
   ·cases h
   ·cases ht:typesP L with
    | none=>rw [ht] at h;cases h
    | some r =>
     obtain ⟨a,b⟩:=r
     rw [ht] at h;cases h
     have:=types_len ht
     simp;omega
  ·cases h;simp
end Go.Proofs.YtpejpnffcepdlaaGreatDoor.RdV
