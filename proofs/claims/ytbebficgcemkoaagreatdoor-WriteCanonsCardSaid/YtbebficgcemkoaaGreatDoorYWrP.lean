/- Plain facts of writing: ends, blocks, functions, programs, there and back. -/
import Derived.Test.YtbebficgcemkoaaGreatDoorYLxKToWrI
namespace Go.Proofs.YtbebficgcemkoaaGreatDoor.WrP
open Go.RowKit Go.Lib TyM ShM LxM LxP LxK LxJ LxY RdM RdN RdV NumP WrM WrI

def endW (x:Ex):List ByteArray :=
 if x.kind=1 then [mk [106,117,109,112],mkw 98 x.to]
 else if x.kind=2 then [mk [98,114,97,110,99,104],mkw 114 x.a,mkw 98 x.to,mkw 98 x.els]
 else [mk [114,101,116,117,114,110],mkw 114 x.a]
def EOk (x:Ex):Prop:=(x.kind=1∧x.a=0∧Nn x.to∧x.els=0)∨(x.kind=2∧Nn x.a∧Nn x.to∧Nn x.els)∨(x.kind=3∧Nn x.a∧x.to=0∧x.els=0)
theorem end_is {s:List UInt8} (h:isEndB s=true):s=[106,117,109,112]∨s=[98,114,97,110,99,104]∨s=[114,101,116,117,114,110]:=by
 unfold isEndB at h
 simpa using h
theorem head_of {l:Ln} {s:List UInt8} (h1:1≤l.length) (h:w0 l=s):l=mk s :: l.drop 1:=by
 cases l with
 | nil=>simp at h1
 | cons x l=>rw [← h];rfl
theorem end_word {l:Ln} {x:Ex} (h1:1≤l.length) (he:isEndB (w0 l)=true) (h:endP l=some x):l=endW x∧EOk x:=by
 rcases end_is he with hx | hx | hx
 ·rw [end_j h1 hx] at h
  unfold endJ at h
  split at h
  ·rename_i t hq
   cases h
   obtain ⟨e,ht⟩:=markC_some hq
   exact ⟨by rw [head_of h1 hx,e];rfl,.inl ⟨rfl,rfl,ht,rfl⟩⟩
  ·cases h
 ·rw [end_b h1 hx] at h
  unfold endB at h
  split at h
  ·cases h
  ·rename_i a m hq
   split at h
   ·cases h
   ·rename_i t m2 hq2
    split at h
    ·rename_i e hq3
     cases h
     obtain ⟨e1,ha⟩:=markC_some hq
     obtain ⟨e2,ht⟩:=markC_some hq2
     obtain ⟨e3,he⟩:=markC_some hq3
     exact ⟨by rw [head_of h1 hx,e1,e2,e3];rfl,.inr (.inl ⟨rfl,ha,ht,he⟩)⟩
    ·cases h
 ·rw [end_r h1 hx] at h
  unfold endR at h
  split at h
  ·rename_i a hq
   cases h
   obtain ⟨e,ha⟩:=markC_some hq
   exact ⟨by rw [head_of h1 hx,e];rfl,.inr (.inr ⟨rfl,ha,rfl,rfl⟩)⟩
  ·cases h

/-! words are not empty -/
/-! blocks -/
def insWs:List Ix→Int→List Ln
 | [],_=>[]
 | x :: l,r=>insW x r :: insWs l (r+1)
def FineW (L:List Ln):Prop:=∀ l∈L,1≤l.length∧∀ y∈l,un y≠[]
theorem block_word:∀ {L:List Ln} {reg:Int} {b:Bx} {n:Nat},FineW L→blockP L reg=some (b,n)→L=insWs b.ins reg++endW b.en :: L.drop n∧(∀ x∈b.ins,IOk x)∧EOk b.en
 | [],_,_,_,_,h=>by cases h
 | l :: L,reg,b,n,hf,h=>by
  have hl:=hf l (by simp)
  rw [blockP] at h
  split at h
  ·rename_i he
   cases hq:endP l with
   | none=>rw [hq] at h;cases h
   | some e =>
    rw [hq] at h
    cases h
    obtain ⟨e1,e2⟩:=end_word hl.1 he hq
    exact ⟨by rw [← e1];rfl,fun x hx=>by simp at hx,e2⟩
  ·split at h
   ·cases h
   ·rename_i x hx
    cases hb:blockP L (reg+1) with
    | none=>rw [hb] at h;cases h
    | some r =>
     obtain ⟨r,m⟩:=r
     rw [hb] at h
     cases h
     obtain ⟨e1,e2,e3⟩:=block_word (fun l' hl'=>hf l' (by simp [hl'])) hb
     rw [← ins_eq hl.1 hl.2] at hx
     obtain ⟨e4,e5⟩:=insC_word hl.2 hx
     refine ⟨?_,fun y hy=>?_,e3⟩
     ·simp only [List.drop_succ_cons]
      show l :: L=insW x reg :: (insWs r.ins (reg+1)++endW r.en :: L.drop m)
      rw [← e1,← e4]
     ·rcases List.mem_cons.1 hy with rfl | hy
      ·exact e5
      ·exact e2 y hy
def blW:Ln:=[mk [98,108,111,99,107]]
def blocksW:List Bx→Int→List Ln
 | [],_=>[]
 | b :: bs,r=>blW :: (insWs b.ins r++endW b.en :: blocksW bs (r+b.ins.length))
def insN (bs:List Bx):Nat:=(bs.map fun b=>b.ins.length).sum
def BOk (b:Bx):Prop:=(∀ x∈b.ins,IOk x)∧EOk b.en
theorem FineW.drop {L:List Ln} (h:FineW L) (n:Nat):FineW (L.drop n):=fun l hl=>h l (List.mem_of_mem_drop hl)
theorem blocks_word:∀ (k:Nat) {L:List Ln} {reg:Int} {bs:List Bx} {n:Nat},L.length≤k→FineW L→blocksP L reg=some (bs,n)→L=blocksW bs reg++L.drop n∧(∀ b∈bs,BOk b)
 | 0,L,reg,bs,n,hk,hf,h=>by
  obtain rfl:L=[]:=List.eq_nil_of_length_eq_zero (by omega)
  rw [blocks_nil] at h;cases h
  exact ⟨rfl,fun b hb=>by cases hb⟩
 | k+1,[],reg,bs,n,hk,hf,h=>by
  rw [blocks_nil] at h;cases h
  exact ⟨rfl,fun b hb=>by cases hb⟩
 | k+1,l :: M,reg,bs,n,hk,hf,h=>by
  rw [blocks_cons] at h
  split at h
  ·rename_i hw
   split at h
   ·rename_i hl
    cases hb:blockP M reg with
    | none=>rw [hb] at h;cases h
    | some r =>
     obtain ⟨b,n1⟩:=r
     rw [hb] at h
     simp only at h
     cases hc:blocksP (M.drop n1) (reg+b.ins.length) with
     | none=>rw [hc] at h;cases h
     | some r =>
      obtain ⟨bs2,m⟩:=r
      rw [hc] at h
      cases h
      have hfM:FineW M:=fun l' hl'=>hf l' (by simp [hl'])
      obtain ⟨e1,e2,e3⟩:=block_word hfM hb
      obtain ⟨e4,e5⟩:=blocks_word k (by rw [List.length_drop];simp at hk;omega) (hfM.drop n1) hc
      refine ⟨?_,fun c hc=>?_⟩
      ·have hlb:l=blW:=by
        rw [head_of (by omega) hw,List.drop_of_length_le (by omega)]
        rfl
       rw [show 1+n1+m=(n1+m)+1 by omega,List.drop_succ_cons,hlb]
       show blW :: M=blW :: (insWs b.ins reg++endW b.en :: blocksW bs2 (reg+b.ins.length))++M.drop (n1+m)
       rw [List.cons_append,List.append_assoc,List.cons_append,← List.drop_drop,← e4,← e1]
      ·rcases List.mem_cons.1 hc with rfl | hc
       ·exact ⟨e2,e3⟩
       ·exact e5 c hc
   ·cases h
  ·cases h
   exact ⟨rfl,fun b hb=>by cases hb⟩

/-! functions, types, programs -/
def fnW (s:Int):Ln:=[mk [102,117,110,99],mkw 116 s]
def funcsW (ts:List Ty):List Fx→List Ln
 | []=>[]
 | f :: fs=>fnW f.sig :: (blocksW f.blocks (regOf ts f.sig)++funcsW ts fs)
def FOk (ts:List Ty) (f:Fx):Prop:=Nn f.sig∧(∀ b∈f.blocks,BOk b)∧regOf ts f.sig+insN f.blocks≤1000
theorem reg_nn (ts:List Ty) (s:Int):0≤regOf ts s:=by
 unfold regOf
 split<;>omega
theorem funcs_word (ts:List Ty):∀ (k:Nat) {L:List Ln} {fs:List Fx},L.length≤k→FineW L→funcsP ts L=some fs→L=funcsW ts fs∧∀ f∈fs,Nn f.sig∧∀ b∈f.blocks,BOk b
 | 0,L,fs,hk,hf,h=>by
  obtain rfl:L=[]:=List.eq_nil_of_length_eq_zero (by omega)
  rw [funcs_nil] at h;cases h
  exact ⟨rfl,fun b hb=>by cases hb⟩
 | k+1,[],fs,hk,hf,h=>by
  rw [funcs_nil] at h;cases h
  exact ⟨rfl,fun b hb=>by cases hb⟩
 | k+1,l :: M,fs,hk,hf,h=>by
  rw [funcs_cons] at h
  split at h
  ·rename_i hl
   split at h
   ·rename_i hm
    unfold funcP at h
    cases hb:blocksP M (regOf ts (mkN (l.getD 1 ⟨#[]⟩) 116).1) with
    | none=>rw [hb] at h;cases h
    | some r =>
     obtain ⟨bs,n⟩:=r
     rw [hb] at h
     simp only [Option.map_some] at h
     cases hc:funcsP ts (M.drop n) with
     | none=>rw [hc] at h;cases h
     | some gs =>
      rw [hc] at h
      cases h
      have hfM:FineW M:=fun l' hl'=>hf l' (by simp [hl'])
      obtain ⟨e1,e2⟩:=blocks_word _ (Nat.le_refl _) hfM hb
      obtain ⟨e3,e4⟩:=funcs_word ts k (by rw [List.length_drop];simp at hk;omega) (hfM.drop n) hc
      obtain ⟨e5,e6⟩:=mkN_word hm
      refine ⟨?_,fun g hg=>?_⟩
      ·have hle:l=fnW (mkN (l.getD 1 ⟨#[]⟩) 116).1:=by
        obtain ⟨hl2,hw⟩:=hl
        match l,hl2 with
        | [x,y],_ =>
         unfold fnW
         rw [show mk [102,117,110,99]=x from (word_of hw).symm]
         exact congrArg (fun z=>[x,z]) e5
       show l :: M=fnW _ :: (blocksW bs _++funcsW ts gs)
       rw [← e3,← e1,← hle]
      ·rcases List.mem_cons.1 hg with rfl | hg
       ·exact ⟨e6,e2⟩
       ·exact e4 g hg
   ·cases h
  ·cases h
def tyW (t:Ty):Ln:=mk [116,121,112,101] :: kindW t
theorem types_word:∀ {L:List Ln} {ts:List Ty} {M:List Ln},FineW L→typesP L=some (ts,M)→L=ts.map tyW++M∧(∀ t∈ts,TOk t)∧FineW M
 | [],ts,M,hf,h=>by cases h;exact ⟨rfl,(fun t ht=>by cases ht),hf⟩
 | l :: L,ts,M,hf,h=>by
  rw [typesP] at h
  split at h
  ·rename_i hw
   split at h
   ·cases h
   ·rename_i t hk
    cases ht:typesP L with
    | none=>rw [ht] at h;cases h
    | some r =>
     obtain ⟨a,b⟩:=r
     rw [ht] at h
     cases h
     obtain ⟨e1,e2,e3⟩:=types_word (fun l' hl'=>hf l' (by simp [hl'])) ht
     obtain ⟨e4,e5⟩:=kind_word hk
     refine ⟨?_,fun u hu=>?_,e3⟩
     ·show l :: L=tyW t :: (a.map tyW++b)
      rw [← e1]
      unfold tyW
      rw [← e4,← head_of (hf l (by simp)).1 hw]
     ·rcases List.mem_cons.1 hu with rfl | hu
      ·exact e5
      ·exact e2 u hu
  ·cases h
   exact ⟨rfl,(fun t ht=>by cases ht),hf⟩
def progW (p:Px):List Ln:=p.types.map tyW++funcsW p.types p.funcs
def POkW (p:Px):Prop:=(∀ t∈p.types,TOk t)∧∀ f∈p.funcs,FOk p.types f
theorem prog_word {L:List Ln} {p:Px} (hf:FineW L) (h:programP L=some p):L=progW p∧(∀ t∈p.types,TOk t)∧∀ f∈p.funcs,Nn f.sig∧∀ b∈f.blocks,BOk b:=by
 unfold programP at h
 cases ht:typesP L with
 | none=>rw [ht] at h;cases h
 | some r =>
  obtain ⟨ts,M⟩:=r
  rw [ht] at h
  simp only at h
  cases hc:funcsP ts M with
  | none=>rw [hc] at h;cases h
  | some fs =>
   rw [hc] at h
   cases h
   obtain ⟨e1,e2,e3⟩:=types_word hf ht
   obtain ⟨e4,e5⟩:=funcs_word ts _ (Nat.le_refl _) e3 hc
   exact ⟨by rw [e1,e4];rfl,e2,e5⟩
end Go.Proofs.YtbebficgcemkoaaGreatDoor.WrP
