/- Plain facts on lines of words: what a text's lines are, by a machine of bytes and by cuts; their text, there and back. No program in this text. -/
import Derived.Lib.Join
namespace Go.Proofs.YtpejpnffcepdlaaGreatDoor.LxM
open Go.Lib

theorem snoc_ind {α:Type} {P:List α→Prop} (h0:P []) (hs:∀ l c,P l→P (l++[c])):∀ l,P l:=by
 intro l
 have H:∀ r:List α,P r.reverse:=by
  intro r
  induction r with
  | nil=>exact h0
  | cons c r ih=>rw [List.reverse_cons];exact hs _ _ ih
 simpa using H l.reverse

abbrev Word:=List UInt8
def kindB (c:UInt8):Nat:=if c.toNat=10 then 2 else if c.toNat=35 then 3 else if c.toNat=32∨c.toNat=9∨c.toNat=13 then 1 else 0
theorem kind_feed {c:UInt8} : kindB c=2↔c.toNat=10:=by
 unfold kindB
 (repeat' split)<;>(constructor<;>intro h<;>omega)
theorem kind_hash {c:UInt8} : kindB c=3↔c.toNat=35:=by
 unfold kindB
 (repeat' split)<;>(constructor<;>intro h<;>omega)
theorem kind_blank {c:UInt8} : kindB c=1↔c.toNat=32∨c.toNat=9∨c.toNat=13:=by
 unfold kindB
 (repeat' split)<;>(constructor<;>intro h<;>omega)
theorem kind_le (c:UInt8):kindB c≤3:=by
 unfold kindB
 (repeat' split)<;>omega

def push (ws:List Word) (cur:Word):List Word:=if cur=[] then ws else ws++[cur]
theorem push_nil (ws:List Word):push ws []=ws:=if_pos rfl
theorem push_ne {ws:List Word} {cur:Word} (h:cur≠[]):push ws cur=ws++[cur]:=if_neg h
abbrev LSt:=List Word × Word × Bool
def wstep (st:LSt) (c:UInt8):LSt :=
 if st.2.2=true then st else if kindB c=3 then (push st.1 st.2.1,[],true) else if kindB c=1 then (push st.1 st.2.1,[],false) else (st.1,st.2.1++[c],false)
theorem wstep_hash {st:LSt} {c:UInt8} (h:st.2.2=true):wstep st c=st:=if_pos h
theorem wstep_at {a:List Word} {b:Word} {c:UInt8} (h:kindB c=3):wstep (a,b,false) c=(push a b,[],true):=by unfold wstep;simp [h]
theorem wstep_blank {a:List Word} {b:Word} {c:UInt8} (h:kindB c=1):wstep (a,b,false) c=(push a b,[],false):=by unfold wstep;simp [h]
theorem wstep_word {a:List Word} {b:Word} {c:UInt8} (h3:kindB c≠3) (h1:kindB c≠1):wstep (a,b,false) c=(a,b++[c],false):=by unfold wstep;simp [h3,h1]
def w0:LSt:=([],[],false)
abbrev MSt:=List (List Word) × LSt
def mstep (st:MSt) (c:UInt8):MSt:=if kindB c=2 then (st.1++[push st.2.1 st.2.2.1],w0) else (st.1,wstep st.2 c)
theorem mstep_feed {st:MSt} {c:UInt8} (h:kindB c=2):mstep st c=(st.1++[push st.2.1 st.2.2.1],w0):=if_pos h
theorem mstep_in {st:MSt} {c:UInt8} (h:kindB c≠2):mstep st c=(st.1,wstep st.2 c):=if_neg h
def runB (s:List UInt8):MSt:=s.foldl mstep ([],w0)
def fin (st:MSt):List (List Word):=st.1++[push st.2.1 st.2.2.1]
def allW (s:List UInt8):List (List Word):=fin (runB s)
theorem runB_append (a b:List UInt8):runB (a++b)=b.foldl mstep (runB a):=List.foldl_append
theorem runB_snoc (a:List UInt8) (c:UInt8):runB (a++[c])=mstep (runB a) c:=by rw [runB_append];rfl

theorem run_old:∀ (l:List UInt8) (st:MSt),∃ r,(l.foldl mstep st).1=st.1++r
 | [],st=>⟨[],by simp⟩
 | c :: l,st=>by
  obtain ⟨r,h⟩:=run_old l (mstep st c)
  rw [List.foldl_cons,h]
  unfold mstep
  split
  ·exact ⟨_,List.append_assoc _ _ _⟩
  ·exact ⟨r,rfl⟩

theorem run_len:∀ l:List UInt8,(runB l).1.length≤l.length:=by
 refine snoc_ind (by simp [runB]) fun l c ih=>?_
 rw [runB_snoc,List.length_append]
 unfold mstep
 split
 ·simp;omega
 ·simp;omega

def lnE (s:List UInt8):Int:=if 16384 < s.length∨∃ x∈allW s,64 < x.length then 4 else 0
def full (x:List Word):Bool:=!x.isEmpty
def lnT (s:List UInt8):List (List Word):=if lnE s=0 then (allW s).filter full else []
theorem lnE_big {s:List UInt8} (h:16384 < s.length):lnE s=4:=if_pos (.inl h)
theorem lnE_long {s:List UInt8} {x:List Word} (hx:x∈allW s) (h:64 < x.length):lnE s=4:=if_pos (.inr ⟨x,hx,h⟩)
theorem lnE_ok {s:List UInt8} (h1:s.length≤16384) (h2:∀ x∈allW s,x.length≤64):lnE s=0:=if_neg fun h=>by
 rcases h with h | ⟨x,hx,h⟩
 ·omega
 ·have:=h2 x hx;omega
theorem lnE_zero {s:List UInt8} (h:lnE s=0):s.length≤16384∧∀ x∈allW s,x.length≤64:=by
 unfold lnE at h
 split at h
 ·simp at h
 ·rename_i hn
  refine ⟨Nat.le_of_not_lt fun h=>hn (.inl h),fun x hx=>Nat.le_of_not_lt fun h=>hn (.inr ⟨x,hx,h⟩)⟩
theorem lnT_ok {s:List UInt8} (h:lnE s=0):lnT s=(allW s).filter full:=if_pos h
theorem lnT_no {s:List UInt8} (h:lnE s=4):lnT s=[]:=if_neg (by omega)

/-! what the walk of Lines knows at a place -/
theorem long_done {s:List UInt8} {k:Nat} (h:k < s.length) (hc:kindB s[k]=2):push (runB (s.take k)).2.1 (runB (s.take k)).2.2.1∈allW s:=by
 have e:s=s.take k++(s[k] :: s.drop (k+1)):=by rw [List.getElem_cons_drop,List.take_append_drop]
 have e2:runB s=(s.drop (k+1)).foldl mstep (mstep (runB (s.take k)) s[k]):=by
  conv=>lhs;rw [e]
  rw [runB_append,List.foldl_cons]
 obtain ⟨r,hr⟩:=run_old (s.drop (k+1)) (mstep (runB (s.take k)) s[k])
 unfold allW fin
 rw [e2,hr,mstep_feed hc]
 simp
theorem long_last (s:List UInt8):push (runB s).2.1 (runB s).2.2.1∈allW s:=by unfold allW fin;simp

/-! cuts -/
/-! words that may be -/
def mayB (w:Word):Bool:=!w.isEmpty && w.all fun c=>decide (kindB c=0)
theorem mayB_iff {w:Word} : mayB w=true↔w≠[]∧∀ c∈w,kindB c=0:=by
 unfold mayB
 simp [List.all_eq_true]
def szL (x:List Word):Nat:=(x.map fun w=>w.length+1).sum
def szT (l:List (List Word)):Nat:=(l.map szL).sum
theorem szL_append (a b:List Word):szL (a++b)=szL a+szL b:=by unfold szL;simp
theorem szT_append (a b:List (List Word)):szT (a++b)=szT a+szT b:=by unfold szT;simp
theorem szL_one (w:Word):szL [w]=w.length+1:=by simp [szL]
theorem szT_one (x:List Word):szT [x]=szL x:=by simp [szT]
theorem lens_sz (r:List Word):lens r+r.length=szL r:=by
 induction r with
 | nil=>rfl
 | cons w r ih =>
  have e1:lens (w :: r)=w.length+lens r:=by simp [lens]
  have e2:szL (w :: r)=w.length+1+szL r:=by simp [szL]
  rw [e1,e2,List.length_cons];omega
/-! there and back -/
def okSt (st:LSt):Prop:=(∀ w∈st.1,mayB w=true)∧∀ c∈st.2.1,kindB c=0
theorem okSt_push {a:List Word} {b:Word} (h1:∀ w∈a,mayB w=true) (h2:∀ c∈b,kindB c=0):∀ w∈push a b,mayB w=true:=by
 intro w hw
 unfold push at hw
 split at hw
 ·exact h1 w hw
 ·rename_i hb
  rcases List.mem_append.1 hw with hw | hw
  ·exact h1 w hw
  ·rw [List.mem_singleton.1 hw];exact mayB_iff.2 ⟨hb,h2⟩
theorem szL_push (a:List Word) (b:Word):szL (push a b)≤szL a+b.length+1:=by
 unfold push
 split
 ·omega
 ·rw [szL_append,szL_one];omega
theorem run_ok:∀ s:List UInt8,(∀ x∈(runB s).1,∀ w∈x,mayB w=true)∧okSt (runB s).2∧szT (runB s).1+szL (runB s).2.1+(runB s).2.2.1.length≤s.length:=by
 refine snoc_ind ⟨by simp [runB],⟨by simp [runB,w0],by simp [runB,w0]⟩,by simp [runB,w0,szT,szL]⟩ fun l c ih=>?_
 rw [runB_snoc,List.length_append]
 generalize runB l=st at *
 obtain ⟨d,a,b,f⟩:=st
 obtain ⟨h1,⟨h2,h3⟩,h4⟩:=ih
 simp only at h1 h2 h3 h4
 have hp:=szL_push a b
 by_cases k2:kindB c=2
 ·rw [mstep_feed k2]
  refine ⟨fun x hx=>?_,⟨by simp [w0],by simp [w0]⟩,?_⟩
  ·rcases List.mem_append.1 hx with hx | hx
   ·exact h1 x hx
   ·rw [List.mem_singleton.1 hx];exact okSt_push h2 h3
  ·have e:szT (d++[push a b])=szT d+szL (push a b):=by rw [szT_append,szT_one]
   simp only [w0,List.length_nil,List.length_cons]
   rw [e]
   have:szL ([]:List Word)=0:=rfl
   omega
 ·rw [mstep_in k2]
  refine ⟨h1,?_⟩
  cases f with
  | true=>rw [wstep_hash rfl];exact ⟨⟨h2,h3⟩,by simp only;omega⟩
  | false =>
   by_cases k3:kindB c=3
   ·rw [wstep_at k3]
    refine ⟨⟨okSt_push h2 h3,by simp⟩,?_⟩
    simp only [List.length_nil,List.length_cons]
    omega
   by_cases k1:kindB c=1
   ·rw [wstep_blank k1]
    refine ⟨⟨okSt_push h2 h3,by simp⟩,?_⟩
    simp only [List.length_nil,List.length_cons]
    omega
   ·rw [wstep_word k3 k1]
    refine ⟨⟨h2,fun x hx=>?_⟩,?_⟩
    ·rcases List.mem_append.1 hx with hx | hx
     ·exact h3 x hx
     ·rw [List.mem_singleton.1 hx];have:=kind_le c;omega
    ·simp only [List.length_append,List.length_nil,List.length_cons]
     omega
theorem all_ok (s:List UInt8):(∀ x∈allW s,∀ w∈x,mayB w=true)∧szT (allW s)≤s.length+1:=by
 obtain ⟨h1,⟨h2,h3⟩,h4⟩:=run_ok s
 unfold allW fin
 refine ⟨fun x hx=>?_,?_⟩
 ·rcases List.mem_append.1 hx with hx | hx
  ·exact h1 x hx
  ·rw [List.mem_singleton.1 hx];exact okSt_push h2 h3
 ·have:=szL_push (runB s).2.1 (runB s).2.2.1
  rw [szT_append,szT_one];omega
theorem szT_filter (l:List (List Word)):szT (l.filter full)≤szT l:=by
 induction l with
 | nil=>simp
 | cons x l ih =>
  have e:szT (x :: l)=szL x+szT l:=by simp [szT]
  rw [List.filter_cons]
  split
  ·have e2:szT (x :: l.filter full)=szL x+szT (l.filter full):=by simp [szT]
   omega
  ·omega
theorem full_ne {x:List Word} (h:full x=true):x≠[]:=by intro e;subst e;simp [full] at h
/-! what counts for nothing -/
theorem k9:kindB (9:UInt8)=1:=by decide
end Go.Proofs.YtpejpnffcepdlaaGreatDoor.LxM
