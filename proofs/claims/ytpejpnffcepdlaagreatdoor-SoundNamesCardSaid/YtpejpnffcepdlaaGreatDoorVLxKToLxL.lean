/- Walks over lex.kind, lex.kindAt and strings.Clone. A scope in which the run jumps to several labels: what holds at each jump, and a measure that every pass from a label lowers. And: what is known of lex.Lines at its labels. Walk over lex.Lines: three labels, and gotos between them. -/
import Derived.Test.YtpejpnffcepdlaaGreatDoorVLxM
import Derived.Test.YtpejpnffcepdlaaGreatDoorVLxP
import Derived.Test.YtpejpnffcepdlaaGreatDoorVShelf
import Derived.Scope
import Derived.WalkMore
set_option maxRecDepth 100000
set_option maxHeartbeats 16000000
namespace Go.Proofs.YtpejpnffcepdlaaGreatDoor.LxK
open Go.RowKit Go.Lib LxM LxP

def kT:List Nat:=[0,0,0,0,0,0,0,0,0,1,2,0,0,1,0,0,0,0,0,0,0,0,0,0,0,0,0,0,0,0,0,0,1,0,0,3]
def TabK (g:Nat) (tab:List Nat) (w:World):Prop:=∀ j,j < tab.length→w.cell? ⟨g,j,none⟩=some (.int .u8 (tab.getD j 0))
def Tab (w:World):Prop:=TabK 2 kT w
theorem tab_on {g:Nat} {tab:List Nat} {w w1:World} (h:TabK g tab w) (hb:Below w.heap.size w w1):TabK g tab w1:=by
 intro j hj
 have h1:=h j hj
 rw [hb.cell (p:=⟨g,j,none⟩) (World.block_lt_of_cell? w _ h1)]
 exact h1
theorem Tab.on {w w1:World} (h:Tab w) (hb:Below w.heap.size w w1):Tab w1:=tab_on h hb
theorem kT_at:∀ n:Fin 36,kT.getD n.val 0=kindB (UInt8.ofNat n.val):=by decide
theorem kind_tab (c:UInt8) (h:c.toNat < 36):kT.getD c.toNat 0=kindB c:=by
 have:=kT_at ⟨c.toNat,h⟩
 simpa using this
theorem kind_over (c:UInt8) (h:¬ c.toNat < 36):kindB c=0:=by
 have:=kind_le c
 have h1:kindB c≠1:=fun e=>by have:=kind_blank.1 e;omega
 have h2:kindB c≠2:=fun e=>by have:=kind_feed.1 e;omega
 have h3:kindB c≠3:=fun e=>by have:=kind_hash.1 e;omega
 omega

theorem kind_core (n k:Nat) (w:World) (hn:n < 36) (hcell:w.cell? ⟨2,n,none⟩=some (.int .u8 k)) :
  Calls Tryz.prog 146 #[.int .i32 n] w fun e w'=>e=.returned (.int .u8 k)∧w=w':=by
 go_enter Tryz.func146,Tryz.ntmps146
 go_wp2
 go_ret
 exact ⟨rfl,rfl⟩
theorem kind_out (n:Nat) (w:World) (hn:¬ n < 36) (hm:n≤255) :
  Calls Tryz.prog 146 #[.int .i32 n] w fun e w'=>e=.returned (.int .u8 0)∧w=w':=by
 go_enter Tryz.func146,Tryz.ntmps146
 go_wp2
 go_ret
 exact ⟨rfl,rfl⟩
theorem u8_le (c:UInt8):c.toNat≤255:=by have:=c.toNat_lt;omega
theorem kind_calls (c:UInt8) (w:World) (ht:Tab w) :
  Calls Tryz.prog 146 #[.int .i32 (c.toNat:Int)] w fun e w'=>e=.returned (.int .u8 (kindB c:Nat))∧w=w':=by
 by_cases h:c.toNat < 36
 ·have hc:=ht c.toNat h
  rw [kind_tab c h] at hc
  exact kind_core _ _ w h hc
 ·rw [kind_over c h]
  exact kind_out _ w h (u8_le c)

def kindS (s:ByteArray) (k:Nat):Nat:=if h:k < s.size then kindB s[k] else 2
theorem kindS_in {s:ByteArray} {k:Nat} (h:k < s.size):kindS s k=kindB s[k]:=dif_pos h
theorem kindS_end (s:ByteArray):kindS s s.size=2:=dif_neg (by omega)
theorem kindS_le (s:ByteArray) (k:Nat):kindS s k≤3:=by
 unfold kindS;split
 ·exact kind_le _
 ·omega
theorem kindAt_calls (s:ByteArray) (k:Nat) (hk:k≤s.size) (w:World) (ht:Tab w) :
  Calls Tryz.prog 99 #[.string s,.int .i64 k] w fun e w'=>e=.returned (.int .u8 (kindS s k:Nat))∧w=w':=by
 by_cases h:k < s.size
 ·rw [kindS_in h]
  have HC:=hid (kind_calls s[k] w ht)
  have h255:=u8_le s[k]
  have hne:((k:Int) == (s.size:Int))=false:=beq_eq_false_iff_ne.2 (by omega)
  clear ht
  go_enter Tryz.func99,Tryz.ntmps99
  go_wp2_with fail
  refine HC.out.mono ?_
  rintro e w1 ⟨rfl,rfl⟩
  go_wp2
  go_ret
  exact ⟨rfl,rfl⟩
 ·obtain rfl:k=s.size:=by omega
  rw [kindS_end]
  go_enter Tryz.func99,Tryz.ntmps99
  go_wp2
  go_ret
  exact ⟨rfl,rfl⟩

theorem clone_calls (s:ByteArray) (hs:s.size≤281474976710656) (w:World) :
  Calls Tryz.prog 100 #[.string s] w fun e w'=>e=.returned (.string s)∧Below w.heap.size w w':=by
 have HC:=hid (Tryz.stringslite_Clone s w hs)
 go_enter Tryz.func100,Tryz.ntmps100
 go_wp2_with fail
 refine HC.out.mono ?_
 rintro e w1 ⟨rfl,hb⟩
 go_wp2
 go_ret
 exact ⟨rfl,hb⟩
end Go.Proofs.YtpejpnffcepdlaaGreatDoor.LxK
namespace Go.Proofs.YtpejpnffcepdlaaGreatDoor.LxJ
open Go.RowKit Go.Lib LxM LxP LxK

def jumps (J:Nat→Act→World→Prop) (Q:Exit→Act→World→Prop):Exit→Act→World→Prop
 | .goto l,a,w=>J l a w
 | e,a,w=>Q e a w
theorem jumps_ret {J:Nat→Act→World→Prop} {Q:Exit→Act→World→Prop} {a:Act} {w:World} : jumps J Q .ret a w=Q .ret a w:=rfl
theorem wp_scope_many {P:Program} {a:Act} {w:World} {Q:Exit→Act→World→Prop} {c:Code} (J:Nat→Act→World→Prop) (μ:Nat→Act→World→Nat)
  (pass:∀ l a w,J l a w→∃ X,findLabel c l=some (.seq .skip X)∧X.wp P (jumps (fun l' a' w'=>J l' a' w'∧μ l' a' w' < μ l a w) Q) a w)
  (first:(∀ l X a w,findLabel c l=some (.seq .skip X)→J l a w→X.wp P (jumps J Q) a w)→c.wp P (jumps J Q) a w):(Code.scope c).wp P Q a w:=by
 intro b k cs
 have key:∀ n l a w rest,findLabel c l=some rest→μ l a w=n→J l a w→∃ e a' w',Q e a' w'∧Arrives P (lone (b.at a (.code rest :: .inScope c :: k)) cs w) b k cs e a' w':=by
  intro n
  induction n using Nat.strongRecOn with
  | _ n ih =>
   intro l a w rest hf hn hJ
   obtain ⟨X,hf',hX⟩:=pass l a w hJ
   have hp:(Code.seq .skip X).wp P (jumps (fun l' a' w'=>J l' a' w'∧μ l' a' w' < μ l a w) Q) a w:=wp_seq (wp_skip hX)
   obtain rfl:rest=_:=Option.some.inj (hf.symm.trans hf')
   obtain ⟨e,a₁,w₁,hq,harr⟩:=hp b (.inScope c :: k) cs
   cases e with
   | normal=>exact ⟨.normal,a₁,w₁,hq,Steps.trans harr (.one step_inScope)⟩
   | exit id=>exact ⟨.exit id,a₁,w₁,hq,fun k' hk=>harr k' (by simp [exitTo,hk])⟩
   | goto l' =>
    obtain ⟨hJ',hlt⟩:=hq
    obtain ⟨X2,hf2,_⟩:=pass l' a₁ w₁ hJ'
    obtain ⟨e₂,a₂,w₂,hq₂,harr₂⟩:=ih _ (by omega) l' a₁ w₁ _ hf2 rfl hJ'
    have hg:gotoIn l' (.inScope c :: k)=some (.code (.seq .skip X2) :: .inScope c :: k):=by simp [gotoIn,hf2]
    exact ⟨e₂,a₂,w₂,hq₂,.of_steps (harr _ hg) harr₂⟩
   | ret=>exact ⟨_,a₁,w₁,hq,harr⟩
   | panic ch=>exact ⟨_,a₁,w₁,hq,harr⟩
   | outgrown=>exact ⟨_,a₁,w₁,hq,harr⟩
 obtain ⟨e,a₁,w₁,hq,harr⟩:=first (fun l X a w hf hJ=>by
  obtain ⟨X2,hf2,h2⟩:=pass l a w hJ
  have e:=Option.some.inj (hf.symm.trans hf2)
  cases e
  exact wp_mono h2 fun e a w q=>by
   cases e with
   | goto l'=>exact q.1
   | _=>exact q) b (.inScope c :: k) cs
 cases e with
 | normal=>exact ⟨.normal,a₁,w₁,hq,.head step_scope (Steps.trans harr (.one step_inScope))⟩
 | exit id=>exact ⟨.exit id,a₁,w₁,hq,fun k' hk=>.head step_scope (harr k' (by simp [exitTo,hk]))⟩
 | goto l' =>
  obtain ⟨X2,hf2,_⟩:=pass l' a₁ w₁ hq
  obtain ⟨e₂,a₂,w₂,hq₂,harr₂⟩:=key _ l' a₁ w₁ _ hf2 rfl hq
  have hg:gotoIn l' (.inScope c :: k)=some (.code (.seq .skip X2) :: .inScope c :: k):=by simp [gotoIn,hf2]
  exact ⟨e₂,a₂,w₂,hq₂,.of_steps (.head step_scope (harr _ hg)) harr₂⟩
 | ret=>exact ⟨_,a₁,w₁,hq,.of_steps (.one step_scope) harr⟩
 | panic ch=>exact ⟨_,a₁,w₁,hq,.of_steps (.one step_scope) harr⟩
 | outgrown=>exact ⟨_,a₁,w₁,hq,.of_steps (.one step_scope) harr⟩

/-! strings and lists of bytes -/
def mk (l:Word):ByteArray:=⟨l.toArray⟩
abbrev un (x:ByteArray):Word:=x.data.toList
theorem mk_un (x:ByteArray):mk (un x)=x:=Lib.mk_data x
theorem un_mk (l:Word):un (mk l)=l:=by simp [mk]
theorem un_len (x:ByteArray):(un x).length=x.size:=Array.length_toList
abbrev mkW (l:List Word):List ByteArray:=l.map mk
abbrev mkL (l:List (List Word)):List (List ByteArray):=l.map mkW
/-! what is known of lex.Lines at its labels -/
abbrev stA (s:ByteArray) (k:Nat):MSt:=runB ((un s).take k)
theorem at_byte {s:ByteArray} {k:Nat} (h:k < s.size):∃ h2:k < (un s).length,(un s)[k]=s[k]:=⟨by rw [un_len];exact h,rfl⟩
theorem stA_next {s:ByteArray} {k:Nat} (h:k < s.size):stA s (k+1)=mstep (stA s k) s[k]:=by
 obtain ⟨h2,e⟩:=at_byte h
 unfold stA
 rw [List.take_succ_eq_append_getElem h2,runB_snoc,e]
theorem stA_end (s:ByteArray):stA s s.size=runB (un s):=by
 unfold stA
 rw [List.take_of_length_le (by rw [un_len];exact Nat.le_refl _)]

def Has (s:ByteArray) (w:World) (lv wv:Value) (k:Nat) (W:List Word) (wr:World):Prop :=
 k≤s.size∧(∀ x∈(stA s k).1,x.length≤64) ∧
 ∃ (r:List Rw) (wk:World),r.map Prod.fst=mkL ((stA s k).1.filter full)∧OwnL w.heap.size lv r wk∧Below w.heap.size w wk∧Below wk.heap.size wk wr∧wr.ownsRow wk.heap.size 9 1 wv W.length (strs (mkW W))
def H0 (s:ByteArray) (w:World) (lv wv:Value) (k:Nat) (wr:World):Prop :=
 Has s w lv wv k (push (stA s k).2.1 (stA s k).2.2.1) wr∧((stA s k).2.2.1≠[]→kindS s k≠0)∧((stA s k).2.2.2=true→kindS s k=2)
def H1 (s:ByteArray) (w:World) (lv wv:Value) (k:Nat) (wr:World):Prop :=
 Has s w lv wv k (push (stA s k).2.1 (stA s k).2.2.1) wr∧((stA s k).2.2.2=true∨kindS s k=3)
def H2 (s:ByteArray) (w:World) (lv wv:Value) (k f:Nat) (wr:World):Prop :=
 Has s w lv wv k (stA s k).2.1 wr∧(stA s k).2.2.2=false∧f < k∧(stA s k).2.2.1=((un s).drop f).take (k - f)

theorem Has.le {s:ByteArray} {w wr:World} {lv wv:Value} {k:Nat} {W:List Word} (h:Has s w lv wv k W wr):k≤s.size:=h.1
theorem Has.belowW {s:ByteArray} {w wr:World} {lv wv:Value} {k:Nat} {W:List Word} (h:Has s w lv wv k W wr):Below w.heap.size w wr:=by
 obtain ⟨_,_,r,wk,_,_,h3,h4,_⟩:=h
 exact h3.trans (h4.mono h3.size)
theorem Has.same {s:ByteArray} {w wr:World} {lv wv:Value} {k j:Nat} {W V:List Word} (h:Has s w lv wv k W wr) (hj:j≤s.size) (hd:(stA s j).1=(stA s k).1) (hw:V=W):Has s w lv wv j V wr:=by
 subst hw
 obtain ⟨_,h2,h3⟩:=h
 refine ⟨hj,?_,?_⟩<;>rw [hd]<;>assumption
theorem H0.start (s:ByteArray) (w:World):H0 s w (.slice none 0 0) (.slice none 0 0) 0 w:=by
 refine ⟨⟨Nat.zero_le _,by simp [stA,runB],[],w,by simp [stA,runB],OwnL.nil _ _,Below.refl _ _,Below.refl _ _,?_⟩,?_,?_⟩
 ·simp only [stA,List.take_zero,runB,List.foldl_nil,w0,push_nil]
  exact World.ownsRow_nil _ _ _ _
 ·simp [stA,runB,w0]
 ·simp [stA,runB,w0]
theorem st_parts (s:ByteArray) (k:Nat):∃ d a b f,stA s k=(d,a,b,f):=⟨_,_,_,_,rfl⟩
theorem Has.lt {s:ByteArray} {w wr:World} {lv wv:Value} {k:Nat} {W:List Word} (h:Has s w lv wv k W wr) (hk:kindS s k≠2):k < s.size:=by
 have:=h.le
 by_cases e:k=s.size
 ·rw [e,kindS_end] at hk;omega
 ·omega
theorem H0.blank {s:ByteArray} {w wr:World} {lv wv:Value} {k:Nat} (h:H0 s w lv wv k wr) (hk:kindS s k=1):H0 s w lv wv (k+1) wr:=by
 obtain ⟨h1,h2,h3⟩:=h
 have hlt:=h1.lt (by omega)
 have hkb:=hk
 rw [kindS_in hlt] at hkb
 have hn:=stA_next hlt
 rw [mstep_in (by omega)] at hn
 obtain ⟨d,a,b,f,hst⟩:=st_parts s k
 rw [hst] at hn h1 h2 h3
 cases f with
 | true=>have:=h3 rfl;omega
 | false =>
  rw [wstep_blank hkb] at hn
  refine ⟨h1.same (by omega) (by rw [hn,hst]) (by rw [hn];exact push_nil _),fun e=>?_,fun e=>?_⟩
  ·rw [hn] at e;exact absurd rfl e
  ·rw [hn] at e;cases e
theorem H0.hash {s:ByteArray} {w wr:World} {lv wv:Value} {k:Nat} (h:H0 s w lv wv k wr) (hk:kindS s k=3):H1 s w lv wv k wr:=⟨h.1,.inr hk⟩
theorem H0.word {s:ByteArray} {w wr:World} {lv wv:Value} {k:Nat} (h:H0 s w lv wv k wr) (hk:kindS s k=0):H2 s w lv wv (k+1) k wr:=by
 obtain ⟨h1,h2,h3⟩:=h
 have hlt:=h1.lt (by omega)
 have hkb:=hk
 rw [kindS_in hlt] at hkb
 have hn:=stA_next hlt
 rw [mstep_in (by omega)] at hn
 obtain ⟨d,a,b,f,hst⟩:=st_parts s k
 rw [hst] at hn h1 h2 h3
 cases f with
 | true=>have:=h3 rfl;omega
 | false =>
  have hb:b=[]:=by
   cases b with
   | nil=>rfl
   | cons x y=>exact absurd hk (h2 (by simp))
  subst hb
  rw [wstep_word (by omega) (by omega)] at hn
  obtain ⟨h2',e⟩:=at_byte hlt
  refine ⟨h1.same (by omega) (by rw [hn,hst]) (by rw [hn];exact (push_nil _).symm),by rw [hn],by omega,?_⟩
  rw [hn,List.drop_eq_getElem_cons h2',e,show k+1 - k=1 by omega]
  rfl
theorem H2.word {s:ByteArray} {w wr:World} {lv wv:Value} {k f0:Nat} (h:H2 s w lv wv k f0 wr) (hk:kindS s k=0):H2 s w lv wv (k+1) f0 wr:=by
 obtain ⟨h1,h2,h3,h4⟩:=h
 have hlt:=h1.lt (by omega)
 have hkb:=hk
 rw [kindS_in hlt] at hkb
 have hn:=stA_next hlt
 rw [mstep_in (by omega)] at hn
 obtain ⟨d,a,b,f,hst⟩:=st_parts s k
 rw [hst] at hn h1 h2 h4
 simp only at h2 h4
 subst h2
 rw [wstep_word (by omega) (by omega)] at hn
 obtain ⟨h2',e⟩:=at_byte hlt
 refine ⟨h1.same (by omega) (by rw [hn,hst]) (by rw [hn]),by rw [hn],by omega,?_⟩
 rw [hn,h4,show k+1 - f0=(k - f0)+1 by omega,List.take_succ_eq_append_getElem (by rw [List.length_drop];omega),List.getElem_drop]
 have e3:f0+(k - f0)=k:=by omega
 simp only [e3,e]
theorem H1.on {s:ByteArray} {w wr:World} {lv wv:Value} {k:Nat} (h:H1 s w lv wv k wr) (hk:kindS s k≠2):H1 s w lv wv (k+1) wr:=by
 obtain ⟨h1,h2⟩:=h
 have hlt:=h1.lt hk
 rw [kindS_in hlt] at hk h2
 have hn:=stA_next hlt
 rw [mstep_in hk] at hn
 obtain ⟨d,a,b,f,hst⟩:=st_parts s k
 rw [hst] at hn h1 h2
 cases f with
 | true =>
  rw [wstep_hash rfl] at hn
  exact ⟨h1.same (by omega) (by rw [hn,hst]) (by rw [hn]),.inl (by rw [hn])⟩
 | false =>
  have h3 : kindB s[k] = 3 := by rcases h2 with h | h; · cases h
                                 · exact h
  rw [wstep_at h3] at hn
  exact ⟨h1.same (by omega) (by rw [hn,hst]) (by rw [hn];exact push_nil _),.inl (by rw [hn])⟩
theorem H1.feed {s:ByteArray} {w wr:World} {lv wv:Value} {k:Nat} (h:H1 s w lv wv k wr) (hk:kindS s k=2):H0 s w lv wv k wr :=
 ⟨h.1,fun _=>by omega,fun _=>hk⟩
def wordA (s:ByteArray) (f k:Nat):ByteArray:=s.extract f k
theorem un_wordA (s:ByteArray) (f k:Nat):un (wordA s f k)=((un s).drop f).take (k - f):=Lib.extract_data s f k
theorem szL_len (x:List Word):x.length≤szL x:=by
 have:=lens_sz x
 omega
theorem words_len {s:ByteArray} {k:Nat} (hk:k≤s.size):(stA s k).2.1.length≤s.size:=by
 obtain ⟨_,_,h⟩:=run_ok ((un s).take k)
 have h2:=szL_len (stA s k).2.1
 have h3:szL (stA s k).2.1≤((un s).take k).length:=Nat.le_trans (by show szL (runB _).2.1≤_;omega) h
 rw [List.length_take,un_len] at h3
 omega
theorem H2.push {s:ByteArray} {w wr w2:World} {lv wv wv2:Value} {k f0:Nat} (h:H2 s w lv wv k f0 wr) (hk:kindS s k≠0) (wk:World) (hw2:Below wk.heap.size wk w2) (r:List Rw)
  (hr:r.map Prod.fst=mkL ((stA s k).1.filter full)) (ho:OwnL w.heap.size lv r wk) (hwk:Below w.heap.size w wk)
  (hown:w2.ownsRow wk.heap.size 9 1 wv2 ((stA s k).2.1.length+1) (strs (mkW (stA s k).2.1)++[.string (wordA s f0 k)])):H0 s w lv wv2 k w2:=by
 obtain ⟨h1,h2,h3,h4⟩:=h
 have hle:=h1.le
 have hcur:(stA s k).2.2.1≠[]:=by
  rw [h4]
  intro e
  have:=congrArg List.length e
  rw [List.length_take,List.length_drop,un_len] at this
  simp at this
  omega
 refine ⟨⟨hle,h1.2.1,r,wk,hr,ho,hwk,hw2,?_⟩,fun _=>hk,fun e=>by rw [h2] at e;cases e⟩
 have hm:mk (stA s k).2.2.1=wordA s f0 k:=by rw [h4,← un_wordA,mk_un]
 rw [push_ne hcur]
 have e:strs (mkW ((stA s k).2.1++[(stA s k).2.2.1]))=strs (mkW (stA s k).2.1)++[.string (wordA s f0 k)]:=by
  simp only [mkW,strs,List.map_append,List.map_cons,List.map_nil]
  rw [hm]
 rw [e,List.length_append]
 exact hown

/-! the end of a line -/
theorem words_le {s:ByteArray} {k:Nat} (h:kindS s k=2):push (stA s k).2.1 (stA s k).2.2.1∈allW (un s)∨¬ k≤s.size:=by
 by_cases hk:k≤s.size
 ·refine .inl ?_
  by_cases e:k=s.size
  ·rw [e,stA_end];exact long_last _
  ·have hlt:k < s.size:=by omega
   rw [kindS_in hlt] at h
   obtain ⟨h2,e2⟩:=at_byte hlt
   exact long_done h2 (by rw [e2];exact h)
 ·exact .inr hk
def LnR (s:ByteArray) (w:World) (e:Ending) (w' : World):Prop :=
 ∃ u r,e=.returned (.tuple #[u,.int .i64 (lnE (un s))])∧r.map Prod.fst=mkL (lnT (un s))∧OwnL w.heap.size u r w'∧Below w.heap.size w w'
theorem LnR.many {s:ByteArray} {w w' : World} (h:lnE (un s)=4) (hb:Below w.heap.size w w'):LnR s w (.returned (.tuple #[.slice none 0 0,.int .i64 4])) w' :=
 ⟨_,[],by rw [h],by rw [lnT_no h];rfl,OwnL.nil _ _,hb⟩
theorem H0.long {s:ByteArray} {w wr:World} {lv wv:Value} {k:Nat} (h:H0 s w lv wv k wr) (hk:kindS s k=2) (hl:64 < (push (stA s k).2.1 (stA s k).2.2.1).length):lnE (un s)=4:=by
 rcases words_le hk with h1 | h1
 ·exact lnE_long h1 hl
 ·exact absurd h.1.le h1
def Done (s:ByteArray) (w:World) (lv:Value) (k:Nat) (w2:World):Prop :=
 ∃ r:List Rw,r.map Prod.fst=mkL (((stA s k).1++[push (stA s k).2.1 (stA s k).2.2.1]).filter full)∧OwnL w.heap.size lv r w2∧Below w.heap.size w w2
theorem H0.empty {s:ByteArray} {w wr:World} {lv wv:Value} {k:Nat} (h:H0 s w lv wv k wr) (hl:push (stA s k).2.1 (stA s k).2.2.1=[]):Done s w lv k wr:=by
 obtain ⟨_,_,r,wk,h1,h2,h3,h4,_⟩:=h.1
 refine ⟨r,?_,OwnL.below h2 h4,h3.trans (h4.mono h3.size)⟩
 rw [hl,List.filter_append,h1]
 simp [full]
theorem Done.full {s:ByteArray} {w wx w2 wk:World} {lv lv2 wv:Value} {k:Nat} {W:List Word} {r:List Rw} (hk:push (stA s k).2.1 (stA s k).2.2.1=W) (hW:W≠[]) (hr:r.map Prod.fst=mkL ((stA s k).1.filter full)) (h2:OwnL w.heap.size lv r wk)
  (hwk:Below w.heap.size w wk) (hwx:Below wk.heap.size wk wx) (hx:wx.ownsRow wk.heap.size 9 1 wv W.length (strs (mkW W))) (hg:wx.grownBy w2 lv.ownBlock) (ho:w2.ownsRow w.heap.size 158 1 lv2 (r.length+1) (r.map Prod.snd++[wv])):Done s w lv2 k w2:=by
 have hO:=OwnL.below h2 hwx
 have hbw:Below w.heap.size w wx:=hwk.trans (hwx.mono hwk.size)
 refine ⟨r++[(mkW W,wv)],?_,OwnL.snoc hO (owns_base (by simpa using hx) hwk.size) hg ho,own_grown hbw hO.1 hg hbw.size⟩
 rw [hk,List.map_append,hr,List.filter_append]
 have:List.filter LxM.full [W]=[W]:=by
  cases W with
  | nil=>exact absurd rfl hW
  | cons a t=>rfl
 rw [this]
 simp
theorem rows_le {s:ByteArray} {k:Nat} {r:List Rw} (hk:k≤s.size) (hr:r.map Prod.fst=mkL ((stA s k).1.filter full)):r.length≤s.size:=by
 have h1:r.length=((stA s k).1.filter full).length:=by
  have:=congrArg List.length hr
  simpa [mkL] using this
 have h2:(stA s k).1.length≤((un s).take k).length:=run_len _
 have h3:=List.length_filter_le full (stA s k).1
 rw [List.length_take,un_len] at h2
 omega
theorem Done.next {s:ByteArray} {w w2:World} {lv:Value} {k:Nat} (h:Done s w lv k w2) (hlt:k < s.size) (hk:kindS s k=2) (hs:∀ x∈(stA s k).1,x.length≤64) (hl:(push (stA s k).2.1 (stA s k).2.2.1).length≤64):H0 s w lv (.slice none 0 0) (k+1) w2:=by
 obtain ⟨r,h1,h2,h3⟩:=h
 rw [kindS_in hlt] at hk
 have hn:=stA_next hlt
 rw [mstep_feed hk] at hn
 refine ⟨⟨by omega,?_,r,w2,by rw [hn];exact h1,h2,h3,Below.refl _ _,?_⟩,fun e=>?_,fun e=>?_⟩
 ·rw [hn]
  intro x hx
  rcases List.mem_append.1 hx with hx | hx
  ·exact hs x hx
  ·rw [List.mem_singleton.1 hx];exact hl
 ·rw [hn]
  simp only [w0,push_nil]
  exact World.ownsRow_nil _ _ _ _
 ·rw [hn] at e;exact absurd rfl e
 ·rw [hn] at e;cases e
theorem Done.end {s:ByteArray} {w w2:World} {lv:Value} (h:Done s w lv s.size w2) (hsz:s.size≤16384) (hs:∀ x∈(stA s s.size).1,x.length≤64) (hl:(push (stA s s.size).2.1 (stA s s.size).2.2.1).length≤64):LnR s w (.returned (.tuple #[lv,.int .i64 0])) w2:=by
 obtain ⟨r,h1,h2,h3⟩:=h
 rw [stA_end] at h1 hs hl
 have hE:lnE (un s)=0:=by
  refine lnE_ok (by rw [un_len];exact hsz) fun x hx=>?_
  unfold allW fin at hx
  rcases List.mem_append.1 hx with hx | hx
  ·exact hs x hx
  ·rw [List.mem_singleton.1 hx];exact hl
 refine ⟨lv,r,by rw [hE],?_,h2,h3⟩
 rw [h1,lnT_ok hE]
 rfl
end Go.Proofs.YtpejpnffcepdlaaGreatDoor.LxJ
namespace Go.Proofs.YtpejpnffcepdlaaGreatDoor.LxL
open Go.RowKit Go.Lib LxM LxP LxK LxJ

def Fr (s:ByteArray) (lv wv:Value) (k f:Nat) (a:Act):Prop :=
 ∃ (u8 u9 u10 u11 u12 u13 u14 u15 u16 u17 u18 u19 u20 u21 u22 u23 u24 u25 u26 u27 u28 u29 u30 u31 u32 u33 u34 u35 u36 u37 u38 u39 u40 u41 u42 u43 u44 u45 u46 u47 u48 u49 u50 u51 u52 u53 u54 u55 u56 u57 u58 u59:Value),a={ tmps:=#[.string s,undef,.slice none 0 0,.int .i64 0,lv,wv,.int .i64 (k:Int),.int .i64 (f:Int),u8,u9,u10,u11,u12,u13,u14,u15,u16,u17,u18,u19,u20,u21,u22,u23,u24,u25,u26,u27,u28,u29,u30,u31,u32,u33,u34,u35,u36,u37,u38,u39,u40,u41,u42,u43,u44,u45,u46,u47,u48,u49,u50,u51,u52,u53,u54,u55,u56,u57,u58,u59],defers:=[] }
def J (s:ByteArray) (w:World):Nat→Act→World→Prop
 | 0,a,wr=>∃ lv wv k f,Fr s lv wv k f a∧H0 s w lv wv k wr
 | 1,a,wr=>∃ lv wv k f,Fr s lv wv k f a∧H1 s w lv wv k wr
 | 2,a,wr=>∃ lv wv k f,Fr s lv wv k f a∧H2 s w lv wv k f wr
 | _,_,_=>False
def placeOf (a:Act):Nat:=(RowKit.intOf (a.tmps.getD 6 undef)).toNat
def rank (l kd:Nat):Nat:=if l=0 then 1 else if l=2 then 2 else if kd=2 then 2 else 0
def mu (s:ByteArray) (l:Nat) (a:Act) (_:World):Nat:=3 * (s.size+1 - placeOf a)+rank l (kindS s (placeOf a))
theorem Fr.mu {s:ByteArray} {lv wv:Value} {k f:Nat} {a:Act} (h:Fr s lv wv k f a) (l:Nat) (w:World):mu s l a w=3 * (s.size+1 - k)+rank l (kindS s k):=by
 have:placeOf a=k:=by
  obtain ⟨u8,u9,u10,u11,u12,u13,u14,u15,u16,u17,u18,u19,u20,u21,u22,u23,u24,u25,u26,u27,u28,u29,u30,u31,u32,u33,u34,u35,u36,u37,u38,u39,u40,u41,u42,u43,u44,u45,u46,u47,u48,u49,u50,u51,u52,u53,u54,u55,u56,u57,u58,u59,rfl⟩:=h
  rfl
 unfold LxL.mu
 rw [this]
theorem jump0 {s:ByteArray} {w:World} {lv wv:Value} {k f M:Nat} {a:Act} {wr:World} (F:Fr s lv wv k f a) (H:H0 s w lv wv k wr) (hm:3 * (s.size+1 - k)+1 < M):J s w 0 a wr∧mu s 0 a wr < M :=
 ⟨⟨lv,wv,k,f,F,H⟩,by rw [F.mu];exact hm⟩
theorem jump1 {s:ByteArray} {w:World} {lv wv:Value} {k f M:Nat} {a:Act} {wr:World} (F:Fr s lv wv k f a) (H:H1 s w lv wv k wr) (hm:3 * (s.size+1 - k)+rank 1 (kindS s k) < M):J s w 1 a wr∧mu s 1 a wr < M :=
 ⟨⟨lv,wv,k,f,F,H⟩,by rw [F.mu];exact hm⟩
theorem jump2 {s:ByteArray} {w:World} {lv wv:Value} {k f M:Nat} {a:Act} {wr:World} (F:Fr s lv wv k f a) (H:H2 s w lv wv k f wr) (hm:3 * (s.size+1 - k)+2 < M):J s w 2 a wr∧mu s 2 a wr < M :=
 ⟨⟨lv,wv,k,f,F,H⟩,by rw [F.mu];exact hm⟩
theorem rank1_le (kd:Nat):rank 1 kd≤2:=by unfold rank;rw [if_neg (by decide),if_neg (by decide)];split<;>omega
theorem rank0 (kd:Nat):rank 0 kd=1:=rfl
theorem rank2 (kd:Nat):rank 2 kd=2:=rfl
theorem rank1_feed:rank 1 2=2:=rfl
theorem kind_at (s:ByteArray) (k:Nat) (hk:k≤s.size) (w:World) (ht:Tab w) (kd:Int) (h:(kindS s k:Int)=kd) :
  Calls Tryz.prog 99 #[.string s,.int .i64 k] w fun e w'=>e=.returned (.int .u8 kd)∧w=w':=by
 subst h
 exact kindAt_calls s k hk w ht

theorem lines_calls (s:ByteArray) (w:World) (ht:Tab w):Calls Tryz.prog 61 #[.string s] w (LnR s w):=by
 by_cases hbig:16384 < s.size
 ·have HE:=hid (lnE_big (s:=un s) (by rw [un_len];exact hbig))
  go_enter Tryz.func61,Tryz.ntmps61
  go_wp2
  go_step3
  go_wp2
  rw [Exit.noGoto_ret]
  go_ret2
  exact LnR.many HE.out (Below.refl _ _)
 ·go_enter Tryz.func61,Tryz.ntmps61
  go_wp2
  refine wp_scope_many (J s w) (mu s) ?_ ?_
  ·intro l a wr hJ
   have HT:=hid ht
   clear ht
   rcases l with _ | _ | _ | l
   ·obtain ⟨lv,wv,k,f,F,h0⟩:=hJ
    have hM:=F.mu 0 wr
    rw [rank0] at hM
    generalize mu s 0 a wr=M at *
    obtain ⟨u8,u9,u10,u11,u12,u13,u14,u15,u16,u17,u18,u19,u20,u21,u22,u23,u24,u25,u26,u27,u28,u29,u30,u31,u32,u33,u34,u35,u36,u37,u38,u39,u40,u41,u42,u43,u44,u45,u46,u47,u48,u49,u50,u51,u52,u53,u54,u55,u56,u57,u58,u59,rfl⟩:=F
    have HM:=hid hM
    have H0:=hid h0
    have hle:=h0.1.le
    have HTR:=hid (HT.out.on h0.1.belowW)
    refine ⟨_,rfl,?_⟩
    have hkd:=kindS_le s k
    rcases (show kindS s k=0∨kindS s k=1∨kindS s k=2∨kindS s k=3 by omega) with hk | hk | hk | hk
    ·have HC:=hid (kind_at s k hle wr HTR.out 0 (by rw [hk];rfl))
     have hlt:=h0.1.lt (by omega)
     have HK:=hid hk
     have HW:=hid (h0.word hk)
     clear hk hkd hM h0
     go_wp2_with fail
     refine HC.out.mono ?_
     rintro e w1 ⟨rfl,rfl⟩
     go_wp2_with fail
     go_step3
     go_wp2_with fail
     refine HC.out.mono ?_
     rintro e w1 ⟨rfl,rfl⟩
     go_wp2
     go_step3
     rw [show (k:Int)+1=((k+1:Nat):Int) by omega]
     exact jump2 ⟨_,_,_,_,_,_,_,_,_,_,_,_,_,_,_,_,_,_,_,_,_,_,_,_,_,_,_,_,_,_,_,_,_,_,_,_,_,_,_,_,_,_,_,_,_,_,_,_,_,_,_,_,rfl⟩ HW.out (by have:=HM.out;omega)
    ·have HC:=hid (kind_at s k hle wr HTR.out 1 (by rw [hk];rfl))
     have hlt:=h0.1.lt (by omega)
     have HW:=hid (h0.blank hk)
     clear hk hkd hM h0
     go_wp2_with fail
     refine HC.out.mono ?_
     rintro e w1 ⟨rfl,rfl⟩
     go_wp2
     go_step3
     rw [show (k:Int)+1=((k+1:Nat):Int) by omega]
     exact jump0 ⟨_,_,_,_,_,_,_,_,_,_,_,_,_,_,_,_,_,_,_,_,_,_,_,_,_,_,_,_,_,_,_,_,_,_,_,_,_,_,_,_,_,_,_,_,_,_,_,_,_,_,_,_,rfl⟩ HW.out (by have:=HM.out;omega)
    ·have HC:=hid (kind_at s k hle wr HTR.out 2 (by rw [hk];rfl))
     have HK:=hid hk
     obtain ⟨_,hs,r,wk,hr,hown,hbw,hbk,hws⟩:=h0.1
     obtain ⟨wa,wc,rfl⟩:=own_slice hws
     have HL0:=hid (fun hl=>H0.out.long hk hl)
     have HE0:=hid (fun hl=>H0.out.empty hl)
     have HNX:=hid (fun (lv2:Value) (w2:World) (hd:Done s w lv2 k w2) hlt hl=>hd.next hlt hk hs hl)
     have HDN:=hid (fun (e:k=s.size) (lv2:Value) (w2:World) (hd:Done s w lv2 k w2) hl=>Done.end (w:=w) (w2:=w2) (lv:=lv2) (e ▸ hd) (by omega) (e ▸ hs) (e ▸ hl))
     have HFU:=hid (fun (W:List Word) (wx w2:World) (lv2 wv:Value) hW hne=>Done.full (w:=w) (wx:=wx) (w2:=w2) (lv2:=lv2) (wv:=wv) (W:=W) hW hne hr hown hbw)
     have HRL:=hid (rows_le hle hr)
     have HB:=hid h0.1.belowW
     have HOW:=hid hws
     have HOB:=hid hbk
     have HOL:=hid hown
     have HBW:=hid hbw
     clear hk hkd hM h0 hs hr hown hbw hbk hws H0
     generalize hW:push (stA s k).2.1 (stA s k).2.2.1=W at *
     have HW:=hid hW
     clear hW
     generalize hn:W.length=n at *
     have HN:=hid hn
     clear hn
     by_cases hl:64 < n
     ·have HE:=hid (HL0.out hl)
      have HBB:=HB.out
      go_wp2_with fail
      refine HC.out.mono ?_
      rintro e w1 ⟨rfl,rfl⟩
      go_wp2
      rw [jumps_ret]
      go_ret2
      exact LnR.many HE.out HBB
     ·by_cases h0:n=0
      ·have hd:=HE0.out (List.eq_nil_of_length_eq_zero (by rw [HN.out];exact h0))
       have HD:=hid hd
       have HB2:=HB.out
       clear hd
       by_cases hend:k=s.size
       ·have HE:=hid (HDN.out hend lv wr HD.out (by omega))
        have he:((k:Int) == (s.size:Int))=true:=by simp;omega
        clear hend
        go_wp2_with fail
        refine HC.out.mono ?_
        rintro e w1 ⟨rfl,rfl⟩
        go_wp2
        rw [jumps_ret]
        go_ret2
        exact HE.out
       ·have HE:=hid (HNX.out lv wr HD.out (by omega) (by omega))
        have he:((k:Int) == (s.size:Int))=false:=by simp;omega
        clear hend
        go_wp2_with fail
        refine HC.out.mono ?_
        rintro e w1 ⟨rfl,rfl⟩
        go_wp2
        go_step3
        rw [show (k:Int)+1=((k+1:Nat):Int) by omega]
        exact jump0 ⟨_,_,_,_,_,_,_,_,_,_,_,_,_,_,_,_,_,_,_,_,_,_,_,_,_,_,_,_,_,_,_,_,_,_,_,_,_,_,_,_,_,_,_,_,_,_,_,_,_,_,_,_,rfl⟩ HE.out (by have:=HM.out;omega)
      ·have hpos:0 < n:=by omega
       have hne:W≠[]:=by
        intro e
        have:=HN.out
        rw [e] at this
        exact h0 this.symm
       have HNE:=hid hne
       clear hne h0
       have hO1:Hid ((wr.alloc (.cells #[.slice wa n wc] 158)).ownsRow w.heap.size 158 1 lv r.length (r.map Prod.snd)):=(ownsRow_below HOL.out.1 HOB.out).alloc _
       have hsz:w.heap.size≤(wr.alloc (.cells #[.slice wa n wc] 158)).heap.size:=(HB.out.alloc HB.out.size _).size
       have hcell:(wr.alloc (.cells #[.slice wa n wc] 158)).cell? ⟨wr.heap.size,0,none⟩=some (.slice wa n wc):=by simp
       have hlt:wr.heap.size < (wr.alloc (.cells #[.slice wa n wc] 158)).heap.size:=by simp
       have HCE:=hid hcell
       have HFX:=hid (fun w2 lv2 hg ho=>HFU.out W (wr.alloc (.cells #[.slice wa n wc] 158)) w2 lv2 (.slice wa n wc) rfl HNE.out (HOB.out.alloc HOB.out.size _) (by rw [HN.out];exact HOW.out.alloc _) hg ho)
       have hrl:=HRL.out
       clear hcell
       go_wp2_with fail
       refine HC.out.mono ?_
       rintro e w1 ⟨rfl,rfl⟩
       go_wp2_with (at_builtin;refine wpList_append_one rfl (.tmp 28) (.tmp 30) elemL rfl w.heap.size lv rfl r.length _ hO1.out (by omega) wr.heap.size (.slice wa n wc) rfl HCE.out hlt rfl hsz ?_)
       intro lv2 w2 hown2 hgr
       have HD:=hid (HFX.out w2 lv2 hgr hown2)
       have HB2:=hid (own_grown (HB.out.alloc HB.out.size _) hO1.out hgr hsz)
       clear hown2 hgr hO1 HCE HFX
       by_cases hend:k=s.size
       ·have HE:=hid (HDN.out hend lv2 w2 HD.out (by omega))
        have he:((k:Int) == (s.size:Int))=true:=by simp;omega
        clear hend
        go_wp2
        rw [jumps_ret]
        go_ret2
        exact HE.out
       ·have HE:=hid (HNX.out lv2 w2 HD.out (by omega) (by omega))
        have he:((k:Int) == (s.size:Int))=false:=by simp;omega
        clear hend
        go_wp2
        go_step3
        rw [show (k:Int)+1=((k+1:Nat):Int) by omega]
        exact jump0 ⟨_,_,_,_,_,_,_,_,_,_,_,_,_,_,_,_,_,_,_,_,_,_,_,_,_,_,_,_,_,_,_,_,_,_,_,_,_,_,_,_,_,_,_,_,_,_,_,_,_,_,_,_,rfl⟩ HE.out (by have:=HM.out;omega)
    ·have HC:=hid (kind_at s k hle wr HTR.out 3 (by rw [hk];rfl))
     have HW:=hid (h0.hash hk)
     have HR:Hid (rank 1 (kindS s k)=0):=by show _=_;rw [hk];rfl
     clear hk hkd hM h0
     go_wp2_with fail
     refine HC.out.mono ?_
     rintro e w1 ⟨rfl,rfl⟩
     go_wp2
     go_step3
     exact jump1 ⟨_,_,_,_,_,_,_,_,_,_,_,_,_,_,_,_,_,_,_,_,_,_,_,_,_,_,_,_,_,_,_,_,_,_,_,_,_,_,_,_,_,_,_,_,_,_,_,_,_,_,_,_,rfl⟩ HW.out (by have:=HM.out;have:=HR.out;omega)
   ·obtain ⟨lv,wv,k,f,F,h1⟩:=hJ
    have hM:=F.mu 1 wr
    simp only [Nat.zero_add] at hM ⊢
    generalize mu s 1 a wr=M at *
    obtain ⟨u8,u9,u10,u11,u12,u13,u14,u15,u16,u17,u18,u19,u20,u21,u22,u23,u24,u25,u26,u27,u28,u29,u30,u31,u32,u33,u34,u35,u36,u37,u38,u39,u40,u41,u42,u43,u44,u45,u46,u47,u48,u49,u50,u51,u52,u53,u54,u55,u56,u57,u58,u59,rfl⟩:=F
    have HM:=hid hM
    have hle:=h1.1.le
    have HTR:=hid (HT.out.on h1.1.belowW)
    refine ⟨_,rfl,?_⟩
    have hkd:=kindS_le s k
    have HC:=hid (kindAt_calls s k hle wr HTR.out)
    by_cases hk:kindS s k=2
    ·have HW:=hid (h1.feed hk)
     rw [hk] at HC HM
     clear hk hkd hM h1
     go_wp2_with fail
     refine HC.out.mono ?_
     rintro e w1 ⟨rfl,rfl⟩
     go_wp2
     go_step3
     exact jump0 ⟨_,_,_,_,_,_,_,_,_,_,_,_,_,_,_,_,_,_,_,_,_,_,_,_,_,_,_,_,_,_,_,_,_,_,_,_,_,_,_,_,_,_,_,_,_,_,_,_,_,_,_,_,rfl⟩ HW.out (by have:=HM.out;rw [rank1_feed] at this;omega)
    ·have HW:=hid (h1.on hk)
     have hlt:=h1.1.lt hk
     have HR:=hid (rank1_le (kindS s (k+1)))
     have HR2:Hid (kindS s k=3∨True):=.inr trivial
     generalize kindS s k=kd at *
     have hne:((kd:Int) != 2)=true:=by simp;omega
     clear hM h1
     go_wp2_with fail
     refine HC.out.mono ?_
     rintro e w1 ⟨rfl,rfl⟩
     go_wp2
     go_step3
     rw [show (k:Int)+1=((k+1:Nat):Int) by omega]
     exact jump1 ⟨_,_,_,_,_,_,_,_,_,_,_,_,_,_,_,_,_,_,_,_,_,_,_,_,_,_,_,_,_,_,_,_,_,_,_,_,_,_,_,_,_,_,_,_,_,_,_,_,_,_,_,_,rfl⟩ HW.out (by have:=HM.out;have:=HR.out;omega)
   ·obtain ⟨lv,wv,k,f,F,h2⟩:=hJ
    have hM:=F.mu 2 wr
    rw [rank2] at hM
    generalize mu s 2 a wr=M at *
    obtain ⟨u8,u9,u10,u11,u12,u13,u14,u15,u16,u17,u18,u19,u20,u21,u22,u23,u24,u25,u26,u27,u28,u29,u30,u31,u32,u33,u34,u35,u36,u37,u38,u39,u40,u41,u42,u43,u44,u45,u46,u47,u48,u49,u50,u51,u52,u53,u54,u55,u56,u57,u58,u59,rfl⟩:=F
    have HM:=hid hM
    have H2h:=hid h2
    have hle:=h2.1.le
    have hfk:=h2.2.2.1
    have HTR:=hid (HT.out.on h2.1.belowW)
    refine ⟨_,rfl,?_⟩
    have hkd:=kindS_le s k
    have HC:=hid (kindAt_calls s k hle wr HTR.out)
    by_cases hk:kindS s k=0
    ·have HW:=hid (h2.word hk)
     have hlt:=h2.1.lt (by omega)
     rw [hk] at HC
     clear hk hkd hM h2
     go_wp2_with fail
     refine HC.out.mono ?_
     rintro e w1 ⟨rfl,rfl⟩
     go_wp2
     go_step3
     rw [show (k:Int)+1=((k+1:Nat):Int) by omega]
     exact jump2 ⟨_,_,_,_,_,_,_,_,_,_,_,_,_,_,_,_,_,_,_,_,_,_,_,_,_,_,_,_,_,_,_,_,_,_,_,_,_,_,_,_,_,_,_,_,_,_,_,_,_,_,_,_,rfl⟩ HW.out (by have:=HM.out;omega)
    ·obtain ⟨_,hs,r,wk,hr,hown,hbw,hbk,hws⟩:=h2.1
     have hwl:=words_len (s:=s) hle
     have HP:=hid (fun (w2:World) (wv2:Value) h3 h4=>H2h.out.push (w2:=w2) (wv2:=wv2) hk wk h3 r hr hown hbw h4)
     have HOW:=hid hws
     have HBK:=hid hbk
     clear h2 hs hr hown hbw hbk hws hM H2h
     generalize (stA s k).2.1=W at *
     generalize kindS s k=kd at *
     have hne:((kd:Int) == 0)=false:=by simp;omega
     have HCL:=hid (fun wx=>clone_calls (s.extract f k) (by rw [ByteArray.size_extract];omega) wx)
     obtain ⟨wa,wc,rfl⟩:=own_slice HOW.out
     have hn:W.length≤16384:=by omega
     clear hwl
     generalize hwn:W.length=n at *
     clear hwn
     generalize strs (mkW W)=xs at *
     go_wp2_with fail
     refine HC.out.mono ?_
     rintro e w1 ⟨rfl,rfl⟩
     go_wp2_with fail
     refine (HCL.out wr).mono ?_
     rintro e w1 ⟨rfl,hb1⟩
     have hbk1:=HBK.out.trans (hb1.mono HBK.out.size)
     have hO1:Hid ((w1.alloc (.cells #[.string (s.extract f k)] 9)).ownsRow wk.heap.size 9 1 (.slice wa n wc) n xs):=(ownsRow_below HOW.out hb1).alloc _
     have hsz:wk.heap.size≤(w1.alloc (.cells #[.string (s.extract f k)] 9)).heap.size:=(hbk1.alloc hbk1.size _).size
     have HCE:Hid ((w1.alloc (.cells #[.string (s.extract f k)] 9)).cell? ⟨w1.heap.size,0,none⟩=some (.string (s.extract f k))):=by show _=_;simp
     have hlt:w1.heap.size < (w1.alloc (.cells #[.string (s.extract f k)] 9)).heap.size:=by simp
     have HB1:=hid (hbk1.alloc hbk1.size (.cells #[.string (s.extract f k)] 9))
     clear hb1 hbk1
     go_wp2_with (at_builtin;refine wpList_append_one rfl (.tmp 46) (.tmp 52) elemS rfl wk.heap.size (.slice wa n wc) rfl n _ hO1.out (by omega) w1.heap.size (.string (s.extract f k)) rfl HCE.out hlt rfl hsz ?_)
     intro wv2 w2 hown2 hgr
     have HE:=hid (HP.out w2 wv2 (own_grown HB1.out hO1.out hgr hsz) hown2)
     clear hown2 hgr hO1 HCE HB1 HP
     go_wp2
     go_step3
     exact jump0 ⟨_,_,_,_,_,_,_,_,_,_,_,_,_,_,_,_,_,_,_,_,_,_,_,_,_,_,_,_,_,_,_,_,_,_,_,_,_,_,_,_,_,_,_,_,_,_,_,_,_,_,_,_,rfl⟩ HE.out (by have:=HM.out;omega)
   ·exact hJ.elim
  ·intro hp
   go_wp2
   rename_i K hK
   go_step3
   exact hK _ _ (hp 0 _ _ _ rfl ⟨_,_,0,0,⟨_,_,_,_,_,_,_,_,_,_,_,_,_,_,_,_,_,_,_,_,_,_,_,_,_,_,_,_,_,_,_,_,_,_,_,_,_,_,_,_,_,_,_,_,_,_,_,_,_,_,_,_,rfl⟩,H0.start s w⟩)
end Go.Proofs.YtpejpnffcepdlaaGreatDoor.LxL
