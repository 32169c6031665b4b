/- Walks over lex.kind, lex.kindAt and strings.Clone. strings.Builder in a call of its own: WriteString, WriteByte, String; strings.Join. A scope in which the run jumps to several labels: what holds at each jump, and a measure that every pass from a label lowers. And: what is known of lex.Lines at its labels. Walk over lex.Lines: three labels, and gotos between them. What Mark answers: 'mkN'. Walk over fescueref05.Mark. Plain facts of reading: what words tell. Plain facts of reading, whole: what an instruction has, instructions, blocks, functions, programs; the same as a reader goes, word by word. Plain facts of reading: blocks, functions and programs, of lines. Plain facts of writing: a program's own lines; what is written is read as that; what is read was written so. Plain facts of writing: instructions, ends, blocks, functions, programs, there and back. -/
import Derived.Test.YtbebficgcemkoaaGreatDoorYLxM
import Derived.Test.YtbebficgcemkoaaGreatDoorYLxP
import Derived.Test.YtbebficgcemkoaaGreatDoorYShelfToShelfB
import Derived.Scope
import Derived.WalkMore
import Derived.Test.YtbebficgcemkoaaGreatDoorYNumRPToNumH
import Derived.Test.YtbebficgcemkoaaGreatDoorYTyMToShN
set_option maxRecDepth 100000
set_option maxHeartbeats 16000000
namespace Go.Proofs.YtbebficgcemkoaaGreatDoor.LxK
open Go.RowKit Go.Lib LxM LxP

def kT:List Nat:=[0,0,0,0,0,0,0,0,0,1,2,0,0,1,0,0,0,0,0,0,0,0,0,0,0,0,0,0,0,0,0,0,1,0,0,3]
def TabK (g:Nat) (tab:List Nat) (w:World):Prop:=∀ j,j < tab.length→w.cell? ⟨g,j,none⟩=some (.int .u8 (tab.getD j 0))
def Tab (w:World):Prop:=TabK 3 kT w
theorem tab_on {g:Nat} {tab:List Nat} {w w1:World} (h:TabK g tab w) (hb:Below w.heap.size w w1):TabK g tab w1:=by
 intro j hj
 have h1:=h j hj
 rw [hb.cell (p:=⟨g,j,none⟩) (World.block_lt_of_cell? w _ h1)]
 exact h1
theorem Tab.on {w w1:World} (h:Tab w) (hb:Below w.heap.size w w1):Tab w1:=tab_on h hb
theorem kT_at:∀ n:Fin 36,kT.getD n.val 0=kindB (UInt8.ofNat n.val):=by decide
theorem kind_tab (c:UInt8) (h:c.toNat < 36):kT.getD c.toNat 0=kindB c:=by
 have:=kT_at ⟨c.toNat,h⟩
 simpa using this
theorem kind_over (c:UInt8) (h:¬ c.toNat < 36):kindB c=0:=by
 have:=kind_le c
 have h1:kindB c≠1:=fun e=>by have:=kind_blank.1 e;omega
 have h2:kindB c≠2:=fun e=>by have:=kind_feed.1 e;omega
 have h3:kindB c≠3:=fun e=>by have:=kind_hash.1 e;omega
 omega

theorem kind_core (n k:Nat) (w:World) (hn:n < 36) (hcell:w.cell? ⟨3,n,none⟩=some (.int .u8 k)) :
  Calls Tryz.prog 128 #[.int .i32 n] w fun e w'=>e=.returned (.int .u8 k)∧w=w':=by
 go_enter Tryz.func128,Tryz.ntmps128
 go_wp2
 go_ret
 exact ⟨rfl,rfl⟩
theorem kind_out (n:Nat) (w:World) (hn:¬ n < 36) (hm:n≤255) :
  Calls Tryz.prog 128 #[.int .i32 n] w fun e w'=>e=.returned (.int .u8 0)∧w=w':=by
 go_enter Tryz.func128,Tryz.ntmps128
 go_wp2
 go_ret
 exact ⟨rfl,rfl⟩
theorem u8_le (c:UInt8):c.toNat≤255:=by have:=c.toNat_lt;omega
theorem kind_calls (c:UInt8) (w:World) (ht:Tab w) :
  Calls Tryz.prog 128 #[.int .i32 (c.toNat:Int)] w fun e w'=>e=.returned (.int .u8 (kindB c:Nat))∧w=w':=by
 by_cases h:c.toNat < 36
 ·have hc:=ht c.toNat h
  rw [kind_tab c h] at hc
  exact kind_core _ _ w h hc
 ·rw [kind_over c h]
  exact kind_out _ w h (u8_le c)

def kindS (s:ByteArray) (k:Nat):Nat:=if h:k < s.size then kindB s[k] else 2
theorem kindS_in {s:ByteArray} {k:Nat} (h:k < s.size):kindS s k=kindB s[k]:=dif_pos h
theorem kindS_end (s:ByteArray):kindS s s.size=2:=dif_neg (by omega)
theorem kindS_le (s:ByteArray) (k:Nat):kindS s k≤3:=by
 unfold kindS;split
 ·exact kind_le _
 ·omega
theorem kindAt_calls (s:ByteArray) (k:Nat) (hk:k≤s.size) (w:World) (ht:Tab w) :
  Calls Tryz.prog 69 #[.string s,.int .i64 k] w fun e w'=>e=.returned (.int .u8 (kindS s k:Nat))∧w=w':=by
 by_cases h:k < s.size
 ·rw [kindS_in h]
  have HC:=hid (kind_calls s[k] w ht)
  have h255:=u8_le s[k]
  have hne:((k:Int) == (s.size:Int))=false:=beq_eq_false_iff_ne.2 (by omega)
  clear ht
  go_enter Tryz.func69,Tryz.ntmps69
  go_wp2_with fail
  refine HC.out.mono ?_
  rintro e w1 ⟨rfl,rfl⟩
  go_wp2
  go_ret
  exact ⟨rfl,rfl⟩
 ·obtain rfl:k=s.size:=by omega
  rw [kindS_end]
  go_enter Tryz.func69,Tryz.ntmps69
  go_wp2
  go_ret
  exact ⟨rfl,rfl⟩

theorem clone_calls (s:ByteArray) (hs:s.size≤281474976710656) (w:World) :
  Calls Tryz.prog 70 #[.string s] w fun e w'=>e=.returned (.string s)∧Below w.heap.size w w':=by
 have HC:=hid (Tryz.stringslite_Clone s w hs)
 go_enter Tryz.func70,Tryz.ntmps70
 go_wp2_with fail
 refine HC.out.mono ?_
 rintro e w1 ⟨rfl,hb⟩
 go_wp2
 go_ret
 exact ⟨rfl,hb⟩
end Go.Proofs.YtbebficgcemkoaaGreatDoor.LxK
namespace Go.Proofs.YtbebficgcemkoaaGreatDoor.LxB
open Go.RowKit Go.Lib Go.Shelf LxM LxP LxK

abbrev Bld (B b:Nat) (bs:List Value) (w:World):Prop:=Lib.IsBuilder 129 5 B b bs w

theorem check_calls (B b:Nat) (bs:List Value) (w:World) (h:Bld B b bs w) :
  Calls Tryz.prog 137 #[.pointer (some ⟨b,0,none⟩)] w fun e w'=>e=.returned (.tuple #[])∧(Lib.BuilderAt 129 5 B b (.pointer (some ⟨b,0,none⟩)) bs w'∧Below B w w') :=
 Any.Builder_copyCheck { Tryz.lays156 with } Tryz.Builder_Extra_156.toX72 B b bs w h
theorem writeS_calls (B b:Nat) (bs:List Value) (s:ByteArray) (w:World) (h:Bld B b bs w) (hlen:bs.length+s.size≤140737488355328) (hBw:B≤w.heap.size) :
  Calls Tryz.prog 88 #[.pointer (some ⟨b,0,none⟩),.string s] w fun e w'=>e=.returned (.tuple #[.int .i64 s.size,.nilIface])∧(Lib.BuilderAt 129 5 B b (.pointer (some ⟨b,0,none⟩)) (bs++Lib.strCells s) w'∧Below B w w') :=
 Any.Builder_WriteString { Tryz.lays156 with } Tryz.Builder_Extra_156 B b bs s w h hlen hBw
theorem info_byte:(Tryz.prog.info? 5).map (fun i=>(i.zero,i.size,i.bytes))=some (some (.int .u8 0),1,1):=by kernel_rfl

theorem writeB_calls (B b:Nat) (bs:List Value) (c:Int) (w:World) (h:Bld B b bs w) (hlen:bs.length+1≤140737488355328) (hBw:B≤w.heap.size) :
  Calls Tryz.prog 90 #[.pointer (some ⟨b,0,none⟩),.int .u8 c] w fun e w'=>e=.returned .nilIface∧(Lib.BuilderAt 129 5 B b (.pointer (some ⟨b,0,none⟩)) (bs++[.int .u8 c]) w'∧Below B w w'):=by
 obtain ⟨i0,hi,hz0,hz1,hz2⟩:=info_parts info_byte
 go_enter Tryz.func90,Tryz.ntmps90
 go_wp2_with fail
 refine (check_calls B b bs _ h).mono ?_
 rintro e w1 ⟨rfl,h1,hb1⟩
 obtain ⟨hB,v,hbk,hown,hne⟩:=h1
 have c0:w1.cell? ⟨b,0,none⟩=some (.pointer (some ⟨b,0,none⟩)):=by rw [Lib.cell_of_heap hbk];rfl
 have c1:w1.cell? ⟨b,1,none⟩=some v:=by rw [Lib.cell_of_heap hbk];rfl
 go_wp2_with (at_builtin;refine wpList_append_own _ rfl _ _ 87 rfl B 5 i0 (.int .u8 0) 1 1 Tryz.underlying87 hi hz0 hz1 hz2 rfl (by decide) _ _ _ rfl (hown.alloc _) ⟨w1.heap.size,0,none⟩ 1 1 [.int .u8 c] rfl rfl ?c1 ?c2 ?c3 ?c4 ?c5 ?_)
 case c1 =>
  intro j u hj
  match j,hj with
  | 0,hj=>simp at hj;subst hj;simp [Addr.add]
 case c2=>intro u hu;simp at hu;subst hu;rfl
 case c3=>unfold maxLen;omega
 case c4=>omega
 case c5=>have:=hb1.size;simp;omega
 intro v' w2 hown' hgrow _
 have hlt:b < w1.heap.size:=by
  rcases Nat.lt_or_ge b w1.heap.size with h' | h'
  ·exact h'
  ·simp [Array.getElem?_eq_none h'] at hbk
 have hb2:w2.heap[b]?=some (.cells #[.pointer (some ⟨b,0,none⟩),v] 129 (0,0)):=by
  rw [hgrow.block b (by simp;omega) (fun e=>hne e.symm),Lib.alloc_old w1 _ b hlt]
  exact hbk
 have d0:w2.cell? ⟨b,0,none⟩=some (.pointer (some ⟨b,0,none⟩)):=by rw [Lib.cell_of_heap hb2];rfl
 have d1:w2.cell? ⟨b,1,none⟩=some v:=by rw [Lib.cell_of_heap hb2];rfl
 have f1:w2.frozen? ⟨b,1,none⟩=false:=Lib.frozen_of_heap hb2 1
 obtain ⟨g,cap,rfl⟩:∃ g cap,v'=.slice (some ⟨g,0,none⟩) (bs.length+1) cap:=by
  rcases hown'.2 with ⟨_,h0⟩ | ⟨g,cap,cur,hv,_⟩
  ·omega
  ·exact ⟨g,cap,hv⟩
 go_wp2
 go_ret
 refine ⟨rfl,?_,?_⟩
 ·exact Lib.BuilderAt.put (T:=129) (e:=5) hB hb2 (bs':=bs++[.int .u8 c]) (by simpa using hown') (by decide)
 ·exact ((hb1.alloc (by have:=hb1.size;omega) _).grown hgrow (by have:=hb1.size;simp;omega) (fun k hk=>(hown.lt k hk).1)).setCell (p:=⟨b,1,none⟩) hB _

theorem joinS_calls (va:Value) (l:List ByteArray) (w:World) (hl:StrsAt w va l) (hN:l.length≤100000) (hlen:(Lib.join (l.map (·.data.toList)) [32]).length≤1000000) :
  Calls Tryz.prog 89 #[va,.string ⟨#[32]⟩] w fun e w'=>e=.returned (.string ⟨(Lib.join (l.map (·.data.toList)) [32]).toArray⟩)∧Below w.heap.size w w':=by
 obtain ⟨ao,ac,rfl,hla⟩:=hl.slice
 by_cases h0:l=[]
 ·subst h0
  refine (Any.strings_Join_none Tryz.lays156 Tryz.Builder_Extra_156 ao ac ⟨#[32]⟩ w).mono ?_
  rintro e w' ⟨rfl,rfl⟩
  exact ⟨rfl,Below.refl _ _⟩
 ·have hpos:0 < l.length:=by
   cases l with
   | nil=>exact absurd rfl h0
   | cons a t=>simp
  obtain ⟨b,o,rfl,hb,_⟩:=hl.at 0 hpos
  have hcap:l.length≤ac:=by
   have:=ListAt.cap hl
   simpa using this
  exact Tryz.strings_Join b o ac l ⟨#[32]⟩ w (fun j x hx=>by
   obtain ⟨hj,rfl⟩:=List.getElem?_eq_some_iff.1 hx
   obtain ⟨b2,o2,e,_,hc⟩:=hl.at j hj
   cases e
   exact hc) hb (by omega) hcap (by simpa using Nat.le_trans hlen (by decide))
end Go.Proofs.YtbebficgcemkoaaGreatDoor.LxB
namespace Go.Proofs.YtbebficgcemkoaaGreatDoor.LxJ
open Go.RowKit Go.Lib LxM LxP LxK

def jumps (J:Nat→Act→World→Prop) (Q:Exit→Act→World→Prop):Exit→Act→World→Prop
 | .goto l,a,w=>J l a w
 | e,a,w=>Q e a w
theorem jumps_ret {J:Nat→Act→World→Prop} {Q:Exit→Act→World→Prop} {a:Act} {w:World} : jumps J Q .ret a w=Q .ret a w:=rfl
theorem wp_scope_many {P:Program} {a:Act} {w:World} {Q:Exit→Act→World→Prop} {c:Code} (J:Nat→Act→World→Prop) (μ:Nat→Act→World→Nat)
  (pass:∀ l a w,J l a w→∃ X,findLabel c l=some (.seq .skip X)∧X.wp P (jumps (fun l' a' w'=>J l' a' w'∧μ l' a' w' < μ l a w) Q) a w)
  (first:(∀ l X a w,findLabel c l=some (.seq .skip X)→J l a w→X.wp P (jumps J Q) a w)→c.wp P (jumps J Q) a w):(Code.scope c).wp P Q a w:=by
 intro b k cs
 have key:∀ n l a w rest,findLabel c l=some rest→μ l a w=n→J l a w→∃ e a' w',Q e a' w'∧Arrives P (lone (b.at a (.code rest :: .inScope c :: k)) cs w) b k cs e a' w':=by
  intro n
  induction n using Nat.strongRecOn with
  | _ n ih =>
   intro l a w rest hf hn hJ
   obtain ⟨X,hf',hX⟩:=pass l a w hJ
   have hp:(Code.seq .skip X).wp P (jumps (fun l' a' w'=>J l' a' w'∧μ l' a' w' < μ l a w) Q) a w:=wp_seq (wp_skip hX)
   obtain rfl:rest=_:=Option.some.inj (hf.symm.trans hf')
   obtain ⟨e,a₁,w₁,hq,harr⟩:=hp b (.inScope c :: k) cs
   cases e with
   | normal=>exact ⟨.normal,a₁,w₁,hq,Steps.trans harr (.one step_inScope)⟩
   | exit id=>exact ⟨.exit id,a₁,w₁,hq,fun k' hk=>harr k' (by simp [exitTo,hk])⟩
   | goto l' =>
    obtain ⟨hJ',hlt⟩:=hq
    obtain ⟨X2,hf2,_⟩:=pass l' a₁ w₁ hJ'
    obtain ⟨e₂,a₂,w₂,hq₂,harr₂⟩:=ih _ (by omega) l' a₁ w₁ _ hf2 rfl hJ'
    have hg:gotoIn l' (.inScope c :: k)=some (.code (.seq .skip X2) :: .inScope c :: k):=by simp [gotoIn,hf2]
    exact ⟨e₂,a₂,w₂,hq₂,.of_steps (harr _ hg) harr₂⟩
   | ret=>exact ⟨_,a₁,w₁,hq,harr⟩
   | panic ch=>exact ⟨_,a₁,w₁,hq,harr⟩
   | outgrown=>exact ⟨_,a₁,w₁,hq,harr⟩
 obtain ⟨e,a₁,w₁,hq,harr⟩:=first (fun l X a w hf hJ=>by
  obtain ⟨X2,hf2,h2⟩:=pass l a w hJ
  have e:=Option.some.inj (hf.symm.trans hf2)
  cases e
  exact wp_mono h2 fun e a w q=>by
   cases e with
   | goto l'=>exact q.1
   | _=>exact q) b (.inScope c :: k) cs
 cases e with
 | normal=>exact ⟨.normal,a₁,w₁,hq,.head step_scope (Steps.trans harr (.one step_inScope))⟩
 | exit id=>exact ⟨.exit id,a₁,w₁,hq,fun k' hk=>.head step_scope (harr k' (by simp [exitTo,hk]))⟩
 | goto l' =>
  obtain ⟨X2,hf2,_⟩:=pass l' a₁ w₁ hq
  obtain ⟨e₂,a₂,w₂,hq₂,harr₂⟩:=key _ l' a₁ w₁ _ hf2 rfl hq
  have hg:gotoIn l' (.inScope c :: k)=some (.code (.seq .skip X2) :: .inScope c :: k):=by simp [gotoIn,hf2]
  exact ⟨e₂,a₂,w₂,hq₂,.of_steps (.head step_scope (harr _ hg)) harr₂⟩
 | ret=>exact ⟨_,a₁,w₁,hq,.of_steps (.one step_scope) harr⟩
 | panic ch=>exact ⟨_,a₁,w₁,hq,.of_steps (.one step_scope) harr⟩
 | outgrown=>exact ⟨_,a₁,w₁,hq,.of_steps (.one step_scope) harr⟩

/-! strings and lists of bytes -/
def mk (l:Word):ByteArray:=⟨l.toArray⟩
abbrev un (x:ByteArray):Word:=x.data.toList
theorem mk_un (x:ByteArray):mk (un x)=x:=Lib.mk_data x
theorem un_mk (l:Word):un (mk l)=l:=by simp [mk]
theorem un_len (x:ByteArray):(un x).length=x.size:=Array.length_toList
theorem mk_size (l:Word):(mk l).size=l.length:=by rw [← un_len,un_mk]
abbrev mkW (l:List Word):List ByteArray:=l.map mk
abbrev mkL (l:List (List Word)):List (List ByteArray):=l.map mkW
abbrev unW (l:List ByteArray):List Word:=l.map un
abbrev unL (l:List (List ByteArray)):List (List Word):=l.map unW
/-! what is known of lex.Lines at its labels -/
abbrev stA (s:ByteArray) (k:Nat):MSt:=runB ((un s).take k)
theorem at_byte {s:ByteArray} {k:Nat} (h:k < s.size):∃ h2:k < (un s).length,(un s)[k]=s[k]:=⟨by rw [un_len];exact h,rfl⟩
theorem stA_next {s:ByteArray} {k:Nat} (h:k < s.size):stA s (k+1)=mstep (stA s k) s[k]:=by
 obtain ⟨h2,e⟩:=at_byte h
 unfold stA
 rw [List.take_succ_eq_append_getElem h2,runB_snoc,e]
theorem stA_end (s:ByteArray):stA s s.size=runB (un s):=by
 unfold stA
 rw [List.take_of_length_le (by rw [un_len];exact Nat.le_refl _)]

def Has (s:ByteArray) (w:World) (lv wv:Value) (k:Nat) (W:List Word) (wr:World):Prop :=
 k≤s.size∧(∀ x∈(stA s k).1,x.length≤64) ∧
 ∃ (r:List Rw) (wk:World),r.map Prod.fst=mkL ((stA s k).1.filter full)∧OwnL w.heap.size lv r wk∧Below w.heap.size w wk∧Below wk.heap.size wk wr∧wr.ownsRow wk.heap.size 9 1 wv W.length (strs (mkW W))
def H0 (s:ByteArray) (w:World) (lv wv:Value) (k:Nat) (wr:World):Prop :=
 Has s w lv wv k (push (stA s k).2.1 (stA s k).2.2.1) wr∧((stA s k).2.2.1≠[]→kindS s k≠0)∧((stA s k).2.2.2=true→kindS s k=2)
def H1 (s:ByteArray) (w:World) (lv wv:Value) (k:Nat) (wr:World):Prop :=
 Has s w lv wv k (push (stA s k).2.1 (stA s k).2.2.1) wr∧((stA s k).2.2.2=true∨kindS s k=3)
def H2 (s:ByteArray) (w:World) (lv wv:Value) (k f:Nat) (wr:World):Prop :=
 Has s w lv wv k (stA s k).2.1 wr∧(stA s k).2.2.2=false∧f < k∧(stA s k).2.2.1=((un s).drop f).take (k - f)

theorem Has.le {s:ByteArray} {w wr:World} {lv wv:Value} {k:Nat} {W:List Word} (h:Has s w lv wv k W wr):k≤s.size:=h.1
theorem Has.belowW {s:ByteArray} {w wr:World} {lv wv:Value} {k:Nat} {W:List Word} (h:Has s w lv wv k W wr):Below w.heap.size w wr:=by
 obtain ⟨_,_,r,wk,_,_,h3,h4,_⟩:=h
 exact h3.trans (h4.mono h3.size)
theorem Has.same {s:ByteArray} {w wr:World} {lv wv:Value} {k j:Nat} {W V:List Word} (h:Has s w lv wv k W wr) (hj:j≤s.size) (hd:(stA s j).1=(stA s k).1) (hw:V=W):Has s w lv wv j V wr:=by
 subst hw
 obtain ⟨_,h2,h3⟩:=h
 refine ⟨hj,?_,?_⟩<;>rw [hd]<;>assumption
theorem H0.start (s:ByteArray) (w:World):H0 s w (.slice none 0 0) (.slice none 0 0) 0 w:=by
 refine ⟨⟨Nat.zero_le _,by simp [stA,runB],[],w,by simp [stA,runB],OwnL.nil _ _,Below.refl _ _,Below.refl _ _,?_⟩,?_,?_⟩
 ·simp only [stA,List.take_zero,runB,List.foldl_nil,w0,push_nil]
  exact World.ownsRow_nil _ _ _ _
 ·simp [stA,runB,w0]
 ·simp [stA,runB,w0]
theorem st_parts (s:ByteArray) (k:Nat):∃ d a b f,stA s k=(d,a,b,f):=⟨_,_,_,_,rfl⟩
theorem Has.lt {s:ByteArray} {w wr:World} {lv wv:Value} {k:Nat} {W:List Word} (h:Has s w lv wv k W wr) (hk:kindS s k≠2):k < s.size:=by
 have:=h.le
 by_cases e:k=s.size
 ·rw [e,kindS_end] at hk;omega
 ·omega
theorem H0.blank {s:ByteArray} {w wr:World} {lv wv:Value} {k:Nat} (h:H0 s w lv wv k wr) (hk:kindS s k=1):H0 s w lv wv (k+1) wr:=by
 obtain ⟨h1,h2,h3⟩:=h
 have hlt:=h1.lt (by omega)
 have hkb:=hk
 rw [kindS_in hlt] at hkb
 have hn:=stA_next hlt
 rw [mstep_in (by omega)] at hn
 obtain ⟨d,a,b,f,hst⟩:=st_parts s k
 rw [hst] at hn h1 h2 h3
 cases f with
 | true=>have:=h3 rfl;omega
 | false =>
  rw [wstep_blank hkb] at hn
  refine ⟨h1.same (by omega) (by rw [hn,hst]) (by rw [hn];exact push_nil _),fun e=>?_,fun e=>?_⟩
  ·rw [hn] at e;exact absurd rfl e
  ·rw [hn] at e;cases e
theorem H0.hash {s:ByteArray} {w wr:World} {lv wv:Value} {k:Nat} (h:H0 s w lv wv k wr) (hk:kindS s k=3):H1 s w lv wv k wr:=⟨h.1,.inr hk⟩
theorem H0.word {s:ByteArray} {w wr:World} {lv wv:Value} {k:Nat} (h:H0 s w lv wv k wr) (hk:kindS s k=0):H2 s w lv wv (k+1) k wr:=by
 obtain ⟨h1,h2,h3⟩:=h
 have hlt:=h1.lt (by omega)
 have hkb:=hk
 rw [kindS_in hlt] at hkb
 have hn:=stA_next hlt
 rw [mstep_in (by omega)] at hn
 obtain ⟨d,a,b,f,hst⟩:=st_parts s k
 rw [hst] at hn h1 h2 h3
 cases f with
 | true=>have:=h3 rfl;omega
 | false =>
  have hb:b=[]:=by
   cases b with
   | nil=>rfl
   | cons x y=>exact absurd hk (h2 (by simp))
  subst hb
  rw [wstep_word (by omega) (by omega)] at hn
  obtain ⟨h2',e⟩:=at_byte hlt
  refine ⟨h1.same (by omega) (by rw [hn,hst]) (by rw [hn];exact (push_nil _).symm),by rw [hn],by omega,?_⟩
  rw [hn,List.drop_eq_getElem_cons h2',e,show k+1 - k=1 by omega]
  rfl
theorem H2.word {s:ByteArray} {w wr:World} {lv wv:Value} {k f0:Nat} (h:H2 s w lv wv k f0 wr) (hk:kindS s k=0):H2 s w lv wv (k+1) f0 wr:=by
 obtain ⟨h1,h2,h3,h4⟩:=h
 have hlt:=h1.lt (by omega)
 have hkb:=hk
 rw [kindS_in hlt] at hkb
 have hn:=stA_next hlt
 rw [mstep_in (by omega)] at hn
 obtain ⟨d,a,b,f,hst⟩:=st_parts s k
 rw [hst] at hn h1 h2 h4
 simp only at h2 h4
 subst h2
 rw [wstep_word (by omega) (by omega)] at hn
 obtain ⟨h2',e⟩:=at_byte hlt
 refine ⟨h1.same (by omega) (by rw [hn,hst]) (by rw [hn]),by rw [hn],by omega,?_⟩
 rw [hn,h4,show k+1 - f0=(k - f0)+1 by omega,List.take_succ_eq_append_getElem (by rw [List.length_drop];omega),List.getElem_drop]
 have e3:f0+(k - f0)=k:=by omega
 simp only [e3,e]
theorem H1.on {s:ByteArray} {w wr:World} {lv wv:Value} {k:Nat} (h:H1 s w lv wv k wr) (hk:kindS s k≠2):H1 s w lv wv (k+1) wr:=by
 obtain ⟨h1,h2⟩:=h
 have hlt:=h1.lt hk
 rw [kindS_in hlt] at hk h2
 have hn:=stA_next hlt
 rw [mstep_in hk] at hn
 obtain ⟨d,a,b,f,hst⟩:=st_parts s k
 rw [hst] at hn h1 h2
 cases f with
 | true =>
  rw [wstep_hash rfl] at hn
  exact ⟨h1.same (by omega) (by rw [hn,hst]) (by rw [hn]),.inl (by rw [hn])⟩
 | false =>
  have h3 : kindB s[k] = 3 := by rcases h2 with h | h; · cases h
                                 · exact h
  rw [wstep_at h3] at hn
  exact ⟨h1.same (by omega) (by rw [hn,hst]) (by rw [hn];exact push_nil _),.inl (by rw [hn])⟩
theorem H1.feed {s:ByteArray} {w wr:World} {lv wv:Value} {k:Nat} (h:H1 s w lv wv k wr) (hk:kindS s k=2):H0 s w lv wv k wr :=
 ⟨h.1,fun _=>by omega,fun _=>hk⟩
def wordA (s:ByteArray) (f k:Nat):ByteArray:=s.extract f k
theorem un_wordA (s:ByteArray) (f k:Nat):un (wordA s f k)=((un s).drop f).take (k - f):=Lib.extract_data s f k
theorem szL_len (x:List Word):x.length≤szL x:=by
 have:=lens_sz x
 omega
theorem words_len {s:ByteArray} {k:Nat} (hk:k≤s.size):(stA s k).2.1.length≤s.size:=by
 obtain ⟨_,_,h⟩:=run_ok ((un s).take k)
 have h2:=szL_len (stA s k).2.1
 have h3:szL (stA s k).2.1≤((un s).take k).length:=Nat.le_trans (by show szL (runB _).2.1≤_;omega) h
 rw [List.length_take,un_len] at h3
 omega
theorem H2.push {s:ByteArray} {w wr w2:World} {lv wv wv2:Value} {k f0:Nat} (h:H2 s w lv wv k f0 wr) (hk:kindS s k≠0) (wk:World) (hw2:Below wk.heap.size wk w2) (r:List Rw)
  (hr:r.map Prod.fst=mkL ((stA s k).1.filter full)) (ho:OwnL w.heap.size lv r wk) (hwk:Below w.heap.size w wk)
  (hown:w2.ownsRow wk.heap.size 9 1 wv2 ((stA s k).2.1.length+1) (strs (mkW (stA s k).2.1)++[.string (wordA s f0 k)])):H0 s w lv wv2 k w2:=by
 obtain ⟨h1,h2,h3,h4⟩:=h
 have hle:=h1.le
 have hcur:(stA s k).2.2.1≠[]:=by
  rw [h4]
  intro e
  have:=congrArg List.length e
  rw [List.length_take,List.length_drop,un_len] at this
  simp at this
  omega
 refine ⟨⟨hle,h1.2.1,r,wk,hr,ho,hwk,hw2,?_⟩,fun _=>hk,fun e=>by rw [h2] at e;cases e⟩
 have hm:mk (stA s k).2.2.1=wordA s f0 k:=by rw [h4,← un_wordA,mk_un]
 rw [push_ne hcur]
 have e:strs (mkW ((stA s k).2.1++[(stA s k).2.2.1]))=strs (mkW (stA s k).2.1)++[.string (wordA s f0 k)]:=by
  simp only [mkW,strs,List.map_append,List.map_cons,List.map_nil]
  rw [hm]
 rw [e,List.length_append]
 exact hown

/-! the end of a line -/
theorem words_le {s:ByteArray} {k:Nat} (h:kindS s k=2):push (stA s k).2.1 (stA s k).2.2.1∈allW (un s)∨¬ k≤s.size:=by
 by_cases hk:k≤s.size
 ·refine .inl ?_
  by_cases e:k=s.size
  ·rw [e,stA_end];exact long_last _
  ·have hlt:k < s.size:=by omega
   rw [kindS_in hlt] at h
   obtain ⟨h2,e2⟩:=at_byte hlt
   exact long_done h2 (by rw [e2];exact h)
 ·exact .inr hk
def LnR (s:ByteArray) (w:World) (e:Ending) (w' : World):Prop :=
 ∃ u r,e=.returned (.tuple #[u,.int .i64 (lnE (un s))])∧r.map Prod.fst=mkL (lnT (un s))∧OwnL w.heap.size u r w'∧Below w.heap.size w w'
theorem LnR.many {s:ByteArray} {w w' : World} (h:lnE (un s)=4) (hb:Below w.heap.size w w'):LnR s w (.returned (.tuple #[.slice none 0 0,.int .i64 4])) w' :=
 ⟨_,[],by rw [h],by rw [lnT_no h];rfl,OwnL.nil _ _,hb⟩
theorem H0.long {s:ByteArray} {w wr:World} {lv wv:Value} {k:Nat} (h:H0 s w lv wv k wr) (hk:kindS s k=2) (hl:64 < (push (stA s k).2.1 (stA s k).2.2.1).length):lnE (un s)=4:=by
 rcases words_le hk with h1 | h1
 ·exact lnE_long h1 hl
 ·exact absurd h.1.le h1
def Done (s:ByteArray) (w:World) (lv:Value) (k:Nat) (w2:World):Prop :=
 ∃ r:List Rw,r.map Prod.fst=mkL (((stA s k).1++[push (stA s k).2.1 (stA s k).2.2.1]).filter full)∧OwnL w.heap.size lv r w2∧Below w.heap.size w w2
theorem H0.empty {s:ByteArray} {w wr:World} {lv wv:Value} {k:Nat} (h:H0 s w lv wv k wr) (hl:push (stA s k).2.1 (stA s k).2.2.1=[]):Done s w lv k wr:=by
 obtain ⟨_,_,r,wk,h1,h2,h3,h4,_⟩:=h.1
 refine ⟨r,?_,OwnL.below h2 h4,h3.trans (h4.mono h3.size)⟩
 rw [hl,List.filter_append,h1]
 simp [full]
theorem Done.full {s:ByteArray} {w wx w2 wk:World} {lv lv2 wv:Value} {k:Nat} {W:List Word} {r:List Rw} (hk:push (stA s k).2.1 (stA s k).2.2.1=W) (hW:W≠[]) (hr:r.map Prod.fst=mkL ((stA s k).1.filter full)) (h2:OwnL w.heap.size lv r wk)
  (hwk:Below w.heap.size w wk) (hwx:Below wk.heap.size wk wx) (hx:wx.ownsRow wk.heap.size 9 1 wv W.length (strs (mkW W))) (hg:wx.grownBy w2 lv.ownBlock) (ho:w2.ownsRow w.heap.size 74 1 lv2 (r.length+1) (r.map Prod.snd++[wv])):Done s w lv2 k w2:=by
 have hO:=OwnL.below h2 hwx
 have hbw:Below w.heap.size w wx:=hwk.trans (hwx.mono hwk.size)
 refine ⟨r++[(mkW W,wv)],?_,OwnL.snoc hO (owns_base (by simpa using hx) hwk.size) hg ho,own_grown hbw hO.1 hg hbw.size⟩
 rw [hk,List.map_append,hr,List.filter_append]
 have:List.filter LxM.full [W]=[W]:=by
  cases W with
  | nil=>exact absurd rfl hW
  | cons a t=>rfl
 rw [this]
 simp
theorem rows_le {s:ByteArray} {k:Nat} {r:List Rw} (hk:k≤s.size) (hr:r.map Prod.fst=mkL ((stA s k).1.filter full)):r.length≤s.size:=by
 have h1:r.length=((stA s k).1.filter full).length:=by
  have:=congrArg List.length hr
  simpa [mkL] using this
 have h2:(stA s k).1.length≤((un s).take k).length:=run_len _
 have h3:=List.length_filter_le full (stA s k).1
 rw [List.length_take,un_len] at h2
 omega
theorem Done.next {s:ByteArray} {w w2:World} {lv:Value} {k:Nat} (h:Done s w lv k w2) (hlt:k < s.size) (hk:kindS s k=2) (hs:∀ x∈(stA s k).1,x.length≤64) (hl:(push (stA s k).2.1 (stA s k).2.2.1).length≤64):H0 s w lv (.slice none 0 0) (k+1) w2:=by
 obtain ⟨r,h1,h2,h3⟩:=h
 rw [kindS_in hlt] at hk
 have hn:=stA_next hlt
 rw [mstep_feed hk] at hn
 refine ⟨⟨by omega,?_,r,w2,by rw [hn];exact h1,h2,h3,Below.refl _ _,?_⟩,fun e=>?_,fun e=>?_⟩
 ·rw [hn]
  intro x hx
  rcases List.mem_append.1 hx with hx | hx
  ·exact hs x hx
  ·rw [List.mem_singleton.1 hx];exact hl
 ·rw [hn]
  simp only [w0,push_nil]
  exact World.ownsRow_nil _ _ _ _
 ·rw [hn] at e;exact absurd rfl e
 ·rw [hn] at e;cases e
theorem Done.end {s:ByteArray} {w w2:World} {lv:Value} (h:Done s w lv s.size w2) (hsz:s.size≤16384) (hs:∀ x∈(stA s s.size).1,x.length≤64) (hl:(push (stA s s.size).2.1 (stA s s.size).2.2.1).length≤64):LnR s w (.returned (.tuple #[lv,.int .i64 0])) w2:=by
 obtain ⟨r,h1,h2,h3⟩:=h
 rw [stA_end] at h1 hs hl
 have hE:lnE (un s)=0:=by
  refine lnE_ok (by rw [un_len];exact hsz) fun x hx=>?_
  unfold allW fin at hx
  rcases List.mem_append.1 hx with hx | hx
  ·exact hs x hx
  ·rw [List.mem_singleton.1 hx];exact hl
 refine ⟨lv,r,by rw [hE],?_,h2,h3⟩
 rw [h1,lnT_ok hE]
 rfl
end Go.Proofs.YtbebficgcemkoaaGreatDoor.LxJ
namespace Go.Proofs.YtbebficgcemkoaaGreatDoor.LxL
open Go.RowKit Go.Lib LxM LxP LxK LxJ

def Fr (s:ByteArray) (lv wv:Value) (k f:Nat) (a:Act):Prop :=
 ∃ (u8 u9 u10 u11 u12 u13 u14 u15 u16 u17 u18 u19 u20 u21 u22 u23 u24 u25 u26 u27 u28 u29 u30 u31 u32 u33 u34 u35 u36 u37 u38 u39 u40 u41 u42 u43 u44 u45 u46 u47 u48 u49 u50 u51 u52 u53 u54 u55 u56 u57 u58 u59:Value),a={ tmps:=#[.string s,undef,.slice none 0 0,.int .i64 0,lv,wv,.int .i64 (k:Int),.int .i64 (f:Int),u8,u9,u10,u11,u12,u13,u14,u15,u16,u17,u18,u19,u20,u21,u22,u23,u24,u25,u26,u27,u28,u29,u30,u31,u32,u33,u34,u35,u36,u37,u38,u39,u40,u41,u42,u43,u44,u45,u46,u47,u48,u49,u50,u51,u52,u53,u54,u55,u56,u57,u58,u59],defers:=[] }
def J (s:ByteArray) (w:World):Nat→Act→World→Prop
 | 0,a,wr=>∃ lv wv k f,Fr s lv wv k f a∧H0 s w lv wv k wr
 | 1,a,wr=>∃ lv wv k f,Fr s lv wv k f a∧H1 s w lv wv k wr
 | 2,a,wr=>∃ lv wv k f,Fr s lv wv k f a∧H2 s w lv wv k f wr
 | _,_,_=>False
def placeOf (a:Act):Nat:=(RowKit.intOf (a.tmps.getD 6 undef)).toNat
def rank (l kd:Nat):Nat:=if l=0 then 1 else if l=2 then 2 else if kd=2 then 2 else 0
def mu (s:ByteArray) (l:Nat) (a:Act) (_:World):Nat:=3 * (s.size+1 - placeOf a)+rank l (kindS s (placeOf a))
theorem Fr.mu {s:ByteArray} {lv wv:Value} {k f:Nat} {a:Act} (h:Fr s lv wv k f a) (l:Nat) (w:World):mu s l a w=3 * (s.size+1 - k)+rank l (kindS s k):=by
 have:placeOf a=k:=by
  obtain ⟨u8,u9,u10,u11,u12,u13,u14,u15,u16,u17,u18,u19,u20,u21,u22,u23,u24,u25,u26,u27,u28,u29,u30,u31,u32,u33,u34,u35,u36,u37,u38,u39,u40,u41,u42,u43,u44,u45,u46,u47,u48,u49,u50,u51,u52,u53,u54,u55,u56,u57,u58,u59,rfl⟩:=h
  rfl
 unfold LxL.mu
 rw [this]
theorem jump0 {s:ByteArray} {w:World} {lv wv:Value} {k f M:Nat} {a:Act} {wr:World} (F:Fr s lv wv k f a) (H:H0 s w lv wv k wr) (hm:3 * (s.size+1 - k)+1 < M):J s w 0 a wr∧mu s 0 a wr < M :=
 ⟨⟨lv,wv,k,f,F,H⟩,by rw [F.mu];exact hm⟩
theorem jump1 {s:ByteArray} {w:World} {lv wv:Value} {k f M:Nat} {a:Act} {wr:World} (F:Fr s lv wv k f a) (H:H1 s w lv wv k wr) (hm:3 * (s.size+1 - k)+rank 1 (kindS s k) < M):J s w 1 a wr∧mu s 1 a wr < M :=
 ⟨⟨lv,wv,k,f,F,H⟩,by rw [F.mu];exact hm⟩
theorem jump2 {s:ByteArray} {w:World} {lv wv:Value} {k f M:Nat} {a:Act} {wr:World} (F:Fr s lv wv k f a) (H:H2 s w lv wv k f wr) (hm:3 * (s.size+1 - k)+2 < M):J s w 2 a wr∧mu s 2 a wr < M :=
 ⟨⟨lv,wv,k,f,F,H⟩,by rw [F.mu];exact hm⟩
theorem rank1_le (kd:Nat):rank 1 kd≤2:=by unfold rank;rw [if_neg (by decide),if_neg (by decide)];split<;>omega
theorem rank0 (kd:Nat):rank 0 kd=1:=rfl
theorem rank2 (kd:Nat):rank 2 kd=2:=rfl
theorem rank1_feed:rank 1 2=2:=rfl
theorem kind_at (s:ByteArray) (k:Nat) (hk:k≤s.size) (w:World) (ht:Tab w) (kd:Int) (h:(kindS s k:Int)=kd) :
  Calls Tryz.prog 69 #[.string s,.int .i64 k] w fun e w'=>e=.returned (.int .u8 kd)∧w=w':=by
 subst h
 exact kindAt_calls s k hk w ht

theorem q8x1 {P:Prop} (h:P:=by
 exact jump0 ⟨_,_,_,_,_,_,_,_,_,_,_,_,_,_,_,_,_,_,_,_,_,_,_,_,_,_,_,_,_,_,_,_,_,_,_,_,_,_,_,_,_,_,_,_,_,_,_,_,_,_,_,_,rfl⟩ HE.out (by have:=HM.out;omega)):P:=h
theorem q8x2 {P:Prop} (h:P:=by
 go_wp2_with fail
 refine HC.out.mono ?_
 rintro e w1 ⟨rfl,rfl⟩
 go_wp2
 go_step3
 rw [show (k:Int)+1=((k+1:Nat):Int) by omega]
 exact jump2 ⟨_,_,_,_,_,_,_,_,_,_,_,_,_,_,_,_,_,_,_,_,_,_,_,_,_,_,_,_,_,_,_,_,_,_,_,_,_,_,_,_,_,_,_,_,_,_,_,_,_,_,_,_,rfl⟩ HW.out (by have:=HM.out;omega)):P:=h
theorem q8x3 {P:Prop} (h:P:=by
 exact jump1 ⟨_,_,_,_,_,_,_,_,_,_,_,_,_,_,_,_,_,_,_,_,_,_,_,_,_,_,_,_,_,_,_,_,_,_,_,_,_,_,_,_,_,_,_,_,_,_,_,_,_,_,_,_,rfl⟩ HW.out (by have:=HM.out;have:=HR.out;omega)):P:=h
theorem lines_calls (s:ByteArray) (w:World) (ht:Tab w):Calls Tryz.prog 34 #[.string s] w (LnR s w):=by
 by_cases hbig:16384 < s.size
 ·have HE:=hid (lnE_big (s:=un s) (by rw [un_len];exact hbig))
  go_enter Tryz.func34,Tryz.ntmps34
  go_wp2
  go_step3
  go_wp2
  rw [Exit.noGoto_ret]
  go_ret2
  exact LnR.many HE.out (Below.refl _ _)
 ·go_enter Tryz.func34,Tryz.ntmps34
  go_wp2
  refine wp_scope_many (J s w) (mu s) ?_ ?_
  ·intro l a wr hJ
   have HT:=hid ht
   clear ht
   rcases l with _ | _ | _ | l
   ·obtain ⟨lv,wv,k,f,F,h0⟩:=hJ
    have hM:=F.mu 0 wr
    rw [rank0] at hM
    generalize mu s 0 a wr=M at *
    obtain ⟨u8,u9,u10,u11,u12,u13,u14,u15,u16,u17,u18,u19,u20,u21,u22,u23,u24,u25,u26,u27,u28,u29,u30,u31,u32,u33,u34,u35,u36,u37,u38,u39,u40,u41,u42,u43,u44,u45,u46,u47,u48,u49,u50,u51,u52,u53,u54,u55,u56,u57,u58,u59,rfl⟩:=F
    have HM:=hid hM
    have H0:=hid h0
    have hle:=h0.1.le
    have HTR:=hid (HT.out.on h0.1.belowW)
    refine ⟨_,rfl,?_⟩
    have hkd:=kindS_le s k
    rcases (show kindS s k=0∨kindS s k=1∨kindS s k=2∨kindS s k=3 by omega) with hk | hk | hk | hk
    ·have HC:=hid (kind_at s k hle wr HTR.out 0 (by rw [hk];rfl))
     have hlt:=h0.1.lt (by omega)
     have HK:=hid hk
     have HW:=hid (h0.word hk)
     clear hk hkd hM h0
     go_wp2_with fail
     refine HC.out.mono ?_
     rintro e w1 ⟨rfl,rfl⟩
     go_wp2_with fail
     go_step3
     exact q8x2
    ·have HC:=hid (kind_at s k hle wr HTR.out 1 (by rw [hk];rfl))
     have hlt:=h0.1.lt (by omega)
     have HW:=hid (h0.blank hk)
     clear hk hkd hM h0
     go_wp2_with fail
     refine HC.out.mono ?_
     rintro e w1 ⟨rfl,rfl⟩
     go_wp2
     go_step3
     rw [show (k:Int)+1=((k+1:Nat):Int) by omega]
     exact jump0 ⟨_,_,_,_,_,_,_,_,_,_,_,_,_,_,_,_,_,_,_,_,_,_,_,_,_,_,_,_,_,_,_,_,_,_,_,_,_,_,_,_,_,_,_,_,_,_,_,_,_,_,_,_,rfl⟩ HW.out (by have:=HM.out;omega)
    ·have HC:=hid (kind_at s k hle wr HTR.out 2 (by rw [hk];rfl))
     have HK:=hid hk
     obtain ⟨_,hs,r,wk,hr,hown,hbw,hbk,hws⟩:=h0.1
     obtain ⟨wa,wc,rfl⟩:=own_slice hws
     have HL0:=hid (fun hl=>H0.out.long hk hl)
     have HE0:=hid (fun hl=>H0.out.empty hl)
     have HNX:=hid (fun (lv2:Value) (w2:World) (hd:Done s w lv2 k w2) hlt hl=>hd.next hlt hk hs hl)
     have HDN:=hid (fun (e:k=s.size) (lv2:Value) (w2:World) (hd:Done s w lv2 k w2) hl=>Done.end (w:=w) (w2:=w2) (lv:=lv2) (e ▸ hd) (by omega) (e ▸ hs) (e ▸ hl))
     have HFU:=hid (fun (W:List Word) (wx w2:World) (lv2 wv:Value) hW hne=>Done.full (w:=w) (wx:=wx) (w2:=w2) (lv2:=lv2) (wv:=wv) (W:=W) hW hne hr hown hbw)
     have HRL:=hid (rows_le hle hr)
     have HB:=hid h0.1.belowW
     have HOW:=hid hws
     have HOB:=hid hbk
     have HOL:=hid hown
     have HBW:=hid hbw
     clear hk hkd hM h0 hs hr hown hbw hbk hws H0
     generalize hW:push (stA s k).2.1 (stA s k).2.2.1=W at *
     have HW:=hid hW
     clear hW
     generalize hn:W.length=n at *
     have HN:=hid hn
     clear hn
     by_cases hl:64 < n
     ·have HE:=hid (HL0.out hl)
      have HBB:=HB.out
      go_wp2_with fail
      refine HC.out.mono ?_
      rintro e w1 ⟨rfl,rfl⟩
      go_wp2
      rw [jumps_ret]
      go_ret2
      exact LnR.many HE.out HBB
     ·by_cases h0:n=0
      ·have hd:=HE0.out (List.eq_nil_of_length_eq_zero (by rw [HN.out];exact h0))
       have HD:=hid hd
       have HB2:=HB.out
       clear hd
       by_cases hend:k=s.size
       ·have HE:=hid (HDN.out hend lv wr HD.out (by omega))
        have he:((k:Int) == (s.size:Int))=true:=by simp;omega
        clear hend
        go_wp2_with fail
        refine HC.out.mono ?_
        rintro e w1 ⟨rfl,rfl⟩
        go_wp2
        rw [jumps_ret]
        go_ret2
        exact HE.out
       ·have HE:=hid (HNX.out lv wr HD.out (by omega) (by omega))
        have he:((k:Int) == (s.size:Int))=false:=by simp;omega
        clear hend
        go_wp2_with fail
        refine HC.out.mono ?_
        rintro e w1 ⟨rfl,rfl⟩
        go_wp2
        go_step3
        rw [show (k:Int)+1=((k+1:Nat):Int) by omega]
        exact q8x1
      ·have hpos:0 < n:=by omega
       have hne:W≠[]:=by
        intro e
        have:=HN.out
        rw [e] at this
        exact h0 this.symm
       have HNE:=hid hne
       clear hne h0
       have hO1:Hid ((wr.alloc (.cells #[.slice wa n wc] 74)).ownsRow w.heap.size 74 1 lv r.length (r.map Prod.snd)):=(ownsRow_below HOL.out.1 HOB.out).alloc _
       have hsz:w.heap.size≤(wr.alloc (.cells #[.slice wa n wc] 74)).heap.size:=(HB.out.alloc HB.out.size _).size
       have hcell:(wr.alloc (.cells #[.slice wa n wc] 74)).cell? ⟨wr.heap.size,0,none⟩=some (.slice wa n wc):=by simp
       have hlt:wr.heap.size < (wr.alloc (.cells #[.slice wa n wc] 74)).heap.size:=by simp
       have HCE:=hid hcell
       have HFX:=hid (fun w2 lv2 hg ho=>HFU.out W (wr.alloc (.cells #[.slice wa n wc] 74)) w2 lv2 (.slice wa n wc) rfl HNE.out (HOB.out.alloc HOB.out.size _) (by rw [HN.out];exact HOW.out.alloc _) hg ho)
       have hrl:=HRL.out
       clear hcell
       go_wp2_with fail
       refine HC.out.mono ?_
       rintro e w1 ⟨rfl,rfl⟩
       go_wp2_with (at_builtin;refine wpList_append_one rfl (.tmp 28) (.tmp 30) elemL rfl w.heap.size lv rfl r.length _ hO1.out (by omega) wr.heap.size (.slice wa n wc) rfl HCE.out hlt rfl hsz ?_)
       intro lv2 w2 hown2 hgr
       have HD:=hid (HFX.out w2 lv2 hgr hown2)
       have HB2:=hid (own_grown (HB.out.alloc HB.out.size _) hO1.out hgr hsz)
       clear hown2 hgr hO1 HCE HFX
       by_cases hend:k=s.size
       ·have HE:=hid (HDN.out hend lv2 w2 HD.out (by omega))
        have he:((k:Int) == (s.size:Int))=true:=by simp;omega
        clear hend
        go_wp2
        rw [jumps_ret]
        go_ret2
        exact HE.out
       ·have HE:=hid (HNX.out lv2 w2 HD.out (by omega) (by omega))
        have he:((k:Int) == (s.size:Int))=false:=by simp;omega
        clear hend
        go_wp2
        go_step3
        rw [show (k:Int)+1=((k+1:Nat):Int) by omega]
        exact q8x1
    ·have HC:=hid (kind_at s k hle wr HTR.out 3 (by rw [hk];rfl))
     have HW:=hid (h0.hash hk)
     have HR:Hid (rank 1 (kindS s k)=0):=by show _=_;rw [hk];rfl
     clear hk hkd hM h0
     go_wp2_with fail
     refine HC.out.mono ?_
     rintro e w1 ⟨rfl,rfl⟩
     go_wp2
     go_step3
     exact q8x3
   ·obtain ⟨lv,wv,k,f,F,h1⟩:=hJ
    have hM:=F.mu 1 wr
    simp only [Nat.zero_add] at hM ⊢
    generalize mu s 1 a wr=M at *
    obtain ⟨u8,u9,u10,u11,u12,u13,u14,u15,u16,u17,u18,u19,u20,u21,u22,u23,u24,u25,u26,u27,u28,u29,u30,u31,u32,u33,u34,u35,u36,u37,u38,u39,u40,u41,u42,u43,u44,u45,u46,u47,u48,u49,u50,u51,u52,u53,u54,u55,u56,u57,u58,u59,rfl⟩:=F
    have HM:=hid hM
    have hle:=h1.1.le
    have HTR:=hid (HT.out.on h1.1.belowW)
    refine ⟨_,rfl,?_⟩
    have hkd:=kindS_le s k
    have HC:=hid (kindAt_calls s k hle wr HTR.out)
    by_cases hk:kindS s k=2
    ·have HW:=hid (h1.feed hk)
     rw [hk] at HC HM
     clear hk hkd hM h1
     go_wp2_with fail
     refine HC.out.mono ?_
     rintro e w1 ⟨rfl,rfl⟩
     go_wp2
     go_step3
     exact jump0 ⟨_,_,_,_,_,_,_,_,_,_,_,_,_,_,_,_,_,_,_,_,_,_,_,_,_,_,_,_,_,_,_,_,_,_,_,_,_,_,_,_,_,_,_,_,_,_,_,_,_,_,_,_,rfl⟩ HW.out (by have:=HM.out;rw [rank1_feed] at this;omega)
    ·have HW:=hid (h1.on hk)
     have hlt:=h1.1.lt hk
     have HR:=hid (rank1_le (kindS s (k+1)))
     have HR2:Hid (kindS s k=3∨True):=.inr trivial
     generalize kindS s k=kd at *
     have hne:((kd:Int) != 2)=true:=by simp;omega
     clear hM h1
     go_wp2_with fail
     refine HC.out.mono ?_
     rintro e w1 ⟨rfl,rfl⟩
     go_wp2
     go_step3
     rw [show (k:Int)+1=((k+1:Nat):Int) by omega]
     exact q8x3
   ·obtain ⟨lv,wv,k,f,F,h2⟩:=hJ
    have hM:=F.mu 2 wr
    rw [rank2] at hM
    generalize mu s 2 a wr=M at *
    obtain ⟨u8,u9,u10,u11,u12,u13,u14,u15,u16,u17,u18,u19,u20,u21,u22,u23,u24,u25,u26,u27,u28,u29,u30,u31,u32,u33,u34,u35,u36,u37,u38,u39,u40,u41,u42,u43,u44,u45,u46,u47,u48,u49,u50,u51,u52,u53,u54,u55,u56,u57,u58,u59,rfl⟩:=F
    have HM:=hid hM
    have H2h:=hid h2
    have hle:=h2.1.le
    have hfk:=h2.2.2.1
    have HTR:=hid (HT.out.on h2.1.belowW)
    refine ⟨_,rfl,?_⟩
    have hkd:=kindS_le s k
    have HC:=hid (kindAt_calls s k hle wr HTR.out)
    by_cases hk:kindS s k=0
    ·have HW:=hid (h2.word hk)
     have hlt:=h2.1.lt (by omega)
     rw [hk] at HC
     clear hk hkd hM h2
     exact q8x2
    ·obtain ⟨_,hs,r,wk,hr,hown,hbw,hbk,hws⟩:=h2.1
     have hwl:=words_len (s:=s) hle
     have HP:=hid (fun (w2:World) (wv2:Value) h3 h4=>H2h.out.push (w2:=w2) (wv2:=wv2) hk wk h3 r hr hown hbw h4)
     have HOW:=hid hws
     have HBK:=hid hbk
     clear h2 hs hr hown hbw hbk hws hM H2h
     generalize (stA s k).2.1=W at *
     generalize kindS s k=kd at *
     have hne:((kd:Int) == 0)=false:=by simp;omega
     have HCL:=hid (fun wx=>clone_calls (s.extract f k) (by rw [ByteArray.size_extract];omega) wx)
     obtain ⟨wa,wc,rfl⟩:=own_slice HOW.out
     have hn:W.length≤16384:=by omega
     clear hwl
     generalize hwn:W.length=n at *
     clear hwn
     generalize strs (mkW W)=xs at *
     go_wp2_with fail
     refine HC.out.mono ?_
     rintro e w1 ⟨rfl,rfl⟩
     go_wp2_with fail
     refine (HCL.out wr).mono ?_
     rintro e w1 ⟨rfl,hb1⟩
     have hbk1:=HBK.out.trans (hb1.mono HBK.out.size)
     have hO1:Hid ((w1.alloc (.cells #[.string (s.extract f k)] 9)).ownsRow wk.heap.size 9 1 (.slice wa n wc) n xs):=(ownsRow_below HOW.out hb1).alloc _
     have hsz:wk.heap.size≤(w1.alloc (.cells #[.string (s.extract f k)] 9)).heap.size:=(hbk1.alloc hbk1.size _).size
     have HCE:Hid ((w1.alloc (.cells #[.string (s.extract f k)] 9)).cell? ⟨w1.heap.size,0,none⟩=some (.string (s.extract f k))):=by show _=_;simp
     have hlt:w1.heap.size < (w1.alloc (.cells #[.string (s.extract f k)] 9)).heap.size:=by simp
     have HB1:=hid (hbk1.alloc hbk1.size (.cells #[.string (s.extract f k)] 9))
     clear hb1 hbk1
     go_wp2_with (at_builtin;refine wpList_append_one rfl (.tmp 46) (.tmp 52) elemS rfl wk.heap.size (.slice wa n wc) rfl n _ hO1.out (by omega) w1.heap.size (.string (s.extract f k)) rfl HCE.out hlt rfl hsz ?_)
     intro wv2 w2 hown2 hgr
     have HE:=hid (HP.out w2 wv2 (own_grown HB1.out hO1.out hgr hsz) hown2)
     clear hown2 hgr hO1 HCE HB1 HP
     go_wp2
     go_step3
     exact q8x1
   ·exact hJ.elim
  ·intro hp
   go_wp2
   rename_i K hK
   go_step3
   exact hK _ _ (hp 0 _ _ _ rfl ⟨_,_,0,0,⟨_,_,_,_,_,_,_,_,_,_,_,_,_,_,_,_,_,_,_,_,_,_,_,_,_,_,_,_,_,_,_,_,_,_,_,_,_,_,_,_,_,_,_,_,_,_,_,_,_,_,_,_,rfl⟩,H0.start s w⟩)
end Go.Proofs.YtbebficgcemkoaaGreatDoor.LxL
namespace Go.Proofs.YtbebficgcemkoaaGreatDoor.LxY
open Go.RowKit Go.Lib LxM LxP LxK LxJ NumP NumQ NumR NumG

def mkN (s:ByteArray) (c:UInt8):Int × Int:=match un s with
 | []=>(0,10)
 | x :: t=>if x=c then NumG.sm t 999 else (0,10)
def MkR (s:ByteArray) (c:UInt8) (w:World) (e:Ending) (w' : World):Prop:=e=.returned (.tuple #[.int .i64 (mkN s c).1,.int .i64 (mkN s c).2])∧Below w.heap.size w w'
theorem mkN_nil {s:ByteArray} {c:UInt8} (h:s.size=0):mkN s c=(0,10):=by
 unfold mkN
 have:un s=[]:=List.eq_nil_of_length_eq_zero (by rw [un_len];exact h)
 rw [this]
theorem un_cons {s:ByteArray} (h:0 < s.size):un s=s[0] :: un (s.extract 1 s.size):=by
 obtain ⟨h2,e⟩:=at_byte h
 rw [show un (s.extract 1 s.size)=_ from Lib.extract_data s 1 s.size,List.take_of_length_le (by rw [List.length_drop,un_len];omega)]
 have:=List.drop_eq_getElem_cons h2
 rw [List.drop_zero,e] at this
 exact this
theorem mkN_no {s:ByteArray} {c:UInt8} (h:0 < s.size) (hc:s[0]≠c):mkN s c=(0,10):=by
 unfold mkN
 rw [un_cons h]
 exact if_neg hc
theorem mkN_yes {s:ByteArray} {c:UInt8} (h:0 < s.size) (hc:s[0]=c):mkN s c=NumG.sm (un (s.extract 1 s.size)) 999:=by
 unfold mkN
 rw [un_cons h]
 exact if_pos hc
theorem sm_cases (t:List UInt8):(NumG.sm t 999).2=0∨NumG.sm t 999=(0,10):=by
 unfold NumG.sm
 rw [if_neg (by omega)]
 split
 ·exact .inl rfl
 ·exact .inr rfl
end Go.Proofs.YtbebficgcemkoaaGreatDoor.LxY
namespace Go.Proofs.YtbebficgcemkoaaGreatDoor.LxY
open Go.RowKit Go.Lib LxM LxP LxK LxJ NumP NumQ NumR NumG

theorem q22x1 {P:Prop} (h:P:=by
 go_wp2_with fail
 refine HC.out.mono ?_
 rintro e w1 ⟨rfl,hb⟩
 clear HC
 go_wp2
 go_ret2
 exact ⟨by rw [HE.out];rfl,hb⟩):P:=h
theorem markR_calls (s:ByteArray) (hs:s.size≤9223372036854775807) (c:UInt8) (w:World) :
  Calls Tryz.prog 113 #[.string s,.int .u8 (c.toNat:Int)] w (MkR s c w):=by
 have h255:=u8_le c
 by_cases h0:s.size=0
 ·have HE:=hid (mkN_nil (c:=c) h0)
  have hse:s=⟨#[]⟩:=by
   apply ByteArray.ext
   exact Array.eq_empty_of_size_eq_zero h0
  subst hse
  go_enter Tryz.func113,Tryz.ntmps113
  go_wp2
  go_ret2
  exact ⟨by rw [HE.out];rfl,Below.refl _ _⟩
 ·have hpos:0 < s.size:=by omega
  have hne:s.toList.isEmpty=false:=by
   rw [Lib.toList_data]
   show (un s).isEmpty=false
   rw [un_cons hpos];rfl
  by_cases hc:s[0]=c
  ·have HE:=hid (mkN_yes hpos hc)
   have hcc:((s[0].toNat:Int) != (c.toNat:Int))=false:=by simp [hc]
   have hsx:(s.extract 1 s.size).size≤9223372036854775807:=by rw [ByteArray.size_extract];omega
   have HC:=hid (NumH.ref_small_calls (s.extract 1 s.size) hsx 999 w)
   have hsm:=sm_cases (un (s.extract 1 s.size))
   unfold SmPost at HC
   clear hc
   generalize NumG.sm (un (s.extract 1 s.size)) 999=r at *
   obtain ⟨m,e⟩:=r
   simp only at hsm HC
   rcases hsm with rfl | hsm
   ·go_enter Tryz.func113,Tryz.ntmps113
    exact q22x1
   ·cases hsm
    go_enter Tryz.func113,Tryz.ntmps113
    exact q22x1
  ·have HE:=hid (mkN_no hpos hc)
   have hcc:((s[0].toNat:Int) != (c.toNat:Int))=true:=by
    simp only [bne_iff_ne,ne_eq]
    intro e
    exact hc (UInt8.toNat_inj.1 (by omega))
   clear hc
   go_enter Tryz.func113,Tryz.ntmps113
   go_wp2
   go_ret2
   exact ⟨by rw [HE.out];rfl,Below.refl _ _⟩
end Go.Proofs.YtbebficgcemkoaaGreatDoor.LxY
namespace Go.Proofs.YtbebficgcemkoaaGreatDoor.RdM
open Go.RowKit Go.Lib TyM ShM LxM LxP LxK LxJ LxY

def marksO (c:UInt8):List ByteArray→Option (List Int)
 | []=>some []
 | x :: l=>if (mkN x c).2=0 then (marksO c l).map ((mkN x c).1 :: ·) else none
theorem marks_snoc {c:UInt8} {x:ByteArray} (hx:(mkN x c).2=0):∀ {l:List ByteArray} {a:List Int},marksO c l=some a→marksO c (l++[x])=some (a++[(mkN x c).1])
 | [],a,h=>by
  cases h
  simp [marksO,hx]
 | y :: l,a,h=>by
  unfold marksO at h
  by_cases hy:(mkN y c).2=0
  ·rw [if_pos hy] at h
   cases hl:marksO c l with
   | none=>rw [hl] at h;cases h
   | some b =>
    rw [hl] at h
    cases h
    rw [List.cons_append]
    unfold marksO
    rw [if_pos hy,marks_snoc hx hl];rfl
  ·rw [if_neg hy] at h;cases h
theorem marks_bad {c:UInt8} : ∀ {l:List ByteArray} {k:Nat} (h:k < l.length),(mkN l[k] c).2≠0→marksO c l=none
 | x :: l,0,_,hx=>if_neg hx
 | x :: l,k+1,h,hx=>by
  have ih:=marks_bad (c:=c) (l:=l) (k:=k) (by simpa using h) (by simpa using hx)
  unfold marksO
  rw [ih]
  split<;>rfl
theorem marks_len {c:UInt8} : ∀ {l:List ByteArray} {a:List Int},marksO c l=some a→a.length=l.length
 | [],a,h=>by cases h;rfl
 | y :: l,a,h=>by
  unfold marksO at h
  split at h
  ·cases hl:marksO c l with
   | none=>rw [hl] at h;cases h
   | some b=>rw [hl] at h;cases h;simp [marks_len hl]
  ·cases h

def wordsL:List (List UInt8):=[[],[105,110,116],[110,117,108,108],[102,110],[97,100,100],[115,117,98],[109,117,108],[100,105,118],[108,101,115,115],[101,113],[115,97,109,101],[110,101,119],[108,111,99,97,108],[102,114,101,101],[102,105,101,108,100],[101,108,101,109],[108,111,97,100],[115,116,111,114,101],[99,97,108,108],[105,99,97,108,108],[114,101,97,100],[112,114,105,110,116],[112,104,105]]
def isWord (s:List UInt8) (j:Nat):Bool:=decide (1≤j) && decide (wordsL.getD j []=s)
def opOf (s:List UInt8):Nat:=((List.range 23).find? (isWord s)).getD 0
theorem op_at {s:List UInt8} {k:Nat} (h1:1≤k) (h2:k < 23) (hw:wordsL.getD k []=s) (hb:∀ j,1≤j→j < k→wordsL.getD j []≠s):opOf s=k:=by
 have:(List.range 23).find? (isWord s)=some k:=by
  rw [List.find?_range_eq_some]
  refine ⟨by unfold isWord;rw [hw];simp [h1],by simpa using h2,fun j hj=>?_⟩
  unfold isWord
  by_cases hj1:1≤j
  ·rw [decide_eq_false (hb j hj1 hj)];simp
  ·simp [hj1]
 unfold opOf
 rw [this];rfl
theorem op_none {s:List UInt8} (hb:∀ j,1≤j→j < 23→wordsL.getD j []≠s):opOf s=0:=by
 have:(List.range 23).find? (isWord s)=none:=by
  rw [List.find?_eq_none]
  intro j hj
  have hj2:j < 23:=List.mem_range.1 hj
  unfold isWord
  by_cases hj1:1≤j
  ·rw [decide_eq_false (hb j hj1 hj2)];simp
  ·simp [hj1]
 unfold opOf
 rw [this];rfl
theorem op_le (s:List UInt8):opOf s≤22:=by
 unfold opOf
 cases h:(List.range 23).find? (isWord s) with
 | none=>simp
 | some k =>
  have:=List.mem_range.1 (List.mem_of_find?_eq_some h)
  simp only [Option.getD_some]
  omega
def hasNB (op:Int):Bool:=decide (op=1∨op=3∨op=14∨op=18)
def numP (op:Int) (s:ByteArray):Int × Bool :=
 if op=1 then ((NumP.rd (un s)).1,decide ((NumP.rd (un s)).2=0))
 else if op=14 then ((NumG.sm (un s) 999).1,decide ((NumG.sm (un s) 999).2=0))
 else ((mkN s 102).1,decide ((mkN s 102).2=0))
def isEndB (s:List UInt8):Bool:=decide (s=[106,117,109,112]) || (decide (s=[98,114,97,110,99,104]) || decide (s=[114,101,116,117,114,110]))
def endP (l:List ByteArray):Option Ex :=
 if un (l.getD 0 ⟨#[]⟩)=[106,117,109,112] then (match marksO 98 (l.drop 1) with
  | some [t]=>some ⟨1,0,t,0⟩
  | _=>none)
 else if l.length < 2 then none
 else if un (l.getD 0 ⟨#[]⟩)=[114,101,116,117,114,110] then (if (mkN (l.getD 1 ⟨#[]⟩) 114).2=0∧marksO 98 (l.drop 2)=some [] then some ⟨3,(mkN (l.getD 1 ⟨#[]⟩) 114).1,0,0⟩ else none)
 else if (mkN (l.getD 1 ⟨#[]⟩) 114).2=0 then (match marksO 98 (l.drop 2) with
  | some [t,e]=>some ⟨2,(mkN (l.getD 1 ⟨#[]⟩) 114).1,t,e⟩
  | _=>none) else none
def kindP (l:List ByteArray):Option Ty :=
 if l.length=0 then none
 else if un (l.getD 0 ⟨#[]⟩)=[97,114,114,97,121] then
  (if l.length=3∧(mkN (l.getD 1 ⟨#[]⟩) 116).2=0∧(NumG.sm (un (l.getD 2 ⟨#[]⟩)) 999).2=0 then some ⟨5,(mkN (l.getD 1 ⟨#[]⟩) 116).1,(NumG.sm (un (l.getD 2 ⟨#[]⟩)) 999).1,[]⟩ else none)
 else match marksO 116 (l.drop 1) with
  | none=>none
  | some r =>
   if un (l.getD 0 ⟨#[]⟩)=[105,110,116] then (if r.length=0 then some ⟨1,0,0,[]⟩ else none)
   else if un (l.getD 0 ⟨#[]⟩)=[112,116,114] then (if r.length=1 then some ⟨2,r.getD 0 0,0,[]⟩ else none)
   else if un (l.getD 0 ⟨#[]⟩)=[102,110] then (if 1≤r.length then some ⟨3,r.getD 0 0,0,r.drop 1⟩ else none)
   else if un (l.getD 0 ⟨#[]⟩)=[115,116,114,117,99,116] then some ⟨4,0,0,r⟩
   else none
def pairsO:List ByteArray→Option (List (Int × Int))
 | []=>some []
 | [_]=>none
 | a :: b :: l=>if (mkN a 98).2=0∧(mkN b 114).2=0 then (pairsO l).map (((mkN a 98).1,(mkN b 114).1) :: ·) else none
theorem pairs_len:∀ {l:List ByteArray} {r:List (Int × Int)},pairsO l=some r→l.length=2 * r.length
 | [],r,h=>by cases h;rfl
 | [_],r,h=>by cases h
 | a :: b :: l,r,h=>by
  unfold pairsO at h
  split at h
  ·cases hl:pairsO l with
   | none=>rw [hl] at h;cases h
   | some q=>rw [hl] at h;cases h;have:=pairs_len hl;simp;omega
  ·cases h
theorem pairs_snoc {a b:ByteArray} (ha:(mkN a 98).2=0) (hb:(mkN b 114).2=0):∀ {l:List ByteArray} {r:List (Int × Int)},pairsO l=some r→pairsO (l++[a,b])=some (r++[((mkN a 98).1,(mkN b 114).1)])
 | [],r,h=>by cases h;simp [pairsO,ha,hb]
 | [_],r,h=>by cases h
 | x :: y :: l,r,h=>by
  unfold pairsO at h
  split at h
  ·rename_i hxy
   cases hl:pairsO l with
   | none=>rw [hl] at h;cases h
   | some q =>
    rw [hl] at h;cases h
    have ih:=pairs_snoc ha hb hl
    show pairsO (x :: y :: (l++[a,b]))=_
    unfold pairsO
    rw [if_pos hxy,ih];rfl
  ·cases h
theorem pairs_bad:∀ {l:List ByteArray} {k:Nat},2 * k+1 < l.length→¬ ((mkN (l.getD (2 * k) ⟨#[]⟩) 98).2=0∧(mkN (l.getD (2 * k+1) ⟨#[]⟩) 114).2=0)→pairsO l=none
 | x :: y :: l,0,_,hx=>by unfold pairsO;exact if_neg hx
 | x :: y :: l,k+1,h,hx=>by
  have ih:=pairs_bad (l:=l) (k:=k) (by simp at h;omega) (by
   rw [show 2 * (k+1)=2 * k+1+1 by omega] at hx
   simpa using hx)
  unfold pairsO
  rw [ih]
  split<;>rfl
theorem pairs_odd {l:List ByteArray} (h:l.length % 2=1):pairsO l=none:=by
 cases hp:pairsO l with
 | none=>rfl
 | some r=>have:=pairs_len hp;omega
def phiP (x:Ix) (l:List ByteArray):Option Ix:=(pairsO l).map fun r=>{ x with args:=r.map Prod.snd,frm:=r.map Prod.fst }
end Go.Proofs.YtbebficgcemkoaaGreatDoor.RdM
namespace Go.Proofs.YtbebficgcemkoaaGreatDoor.RdN
open Go.RowKit Go.Lib TyM ShM LxM LxP LxK LxJ LxY RdM

/-! by the document's words -/
def ix0 (op typ:Int):Ix:=⟨op,typ,0,0,0,[],[]⟩
def regsN (op:Int):Nat:=if twoB op=true then 2 else if hasAB op=true then 1 else 0
def restP (op typ a b:Int) (m:List ByteArray):Option Ix :=
 if hasNB op=true then
  (if m.length=0 then none else match marksO 114 (m.drop 1) with
   | none=>none
   | some q=>if (numP op (m.getD 0 ⟨#[]⟩)).2=true∧(m.length=1∨argsB op=true) then some ⟨op,typ,a,b,(numP op (m.getD 0 ⟨#[]⟩)).1,q,[]⟩ else none)
 else match marksO 114 m with
  | none=>none
  | some q=>if m.length=0∨argsB op=true then some ⟨op,typ,a,b,0,q,[]⟩ else none
def hasP (op typ:Int) (l:List ByteArray):Option Ix :=
 if op=22 then phiP (ix0 op typ) l
 else if l.length < regsN op then none
 else match marksO 114 (l.take (regsN op)) with
  | none=>none
  | some r=>restP op typ (if 0 < regsN op then r.getD 0 0 else 0) (if 1 < regsN op then r.getD 1 0 else 0) (l.drop (regsN op))
def opW (l:List ByteArray) (k:Nat):Nat:=opOf (un (l.getD k ⟨#[]⟩))
def insP (l:List ByteArray) (reg:Int):Option Ix :=
 if 3 < l.length∧un (l.getD 2 ⟨#[]⟩)=[61] then
  (if (mkN (l.getD 0 ⟨#[]⟩) 114).2=0∧(mkN (l.getD 1 ⟨#[]⟩) 116).2=0∧(mkN (l.getD 0 ⟨#[]⟩) 114).1=reg∧answersB (opW l 3)=true then hasP (opW l 3) (mkN (l.getD 1 ⟨#[]⟩) 116).1 (l.drop 4) else none)
 else if opW l 0=0∨answersB (opW l 0)=true then none
 else hasP (opW l 0) 0 (l.drop 1)

/-! as a reader goes: a line's words -/
def wordC:List ByteArray→Option (ByteArray × List ByteArray)
 | []=>none
 | x :: l=>some (x,l)
def markC (c:UInt8):List ByteArray→Option (Int × List ByteArray)
 | []=>none
 | x :: l=>if (mkN x c).2=0 then some ((mkN x c).1,l) else none
def smallC:List ByteArray→Option (Int × List ByteArray)
 | []=>none
 | x :: l=>if (NumG.sm (un x) 999).2=0 then some ((NumG.sm (un x) 999).1,l) else none
def numC (op:Int) (l:List ByteArray):Option (Int × List ByteArray) :=
 if hasNB op=true then (match l with
  | []=>none
  | x :: l=>if (numP op x).2=true then some ((numP op x).1,l) else none)
 else some (0,l)
theorem markC_nil (c:UInt8):markC c []=none:=rfl
theorem markC_cons (c:UInt8) (x:ByteArray) (l:List ByteArray):markC c (x :: l)=if (mkN x c).2=0 then some ((mkN x c).1,l) else none:=rfl
theorem smallC_nil:smallC []=none:=rfl
theorem smallC_cons (x:ByteArray) (l:List ByteArray):smallC (x :: l)=if (NumG.sm (un x) 999).2=0 then some ((NumG.sm (un x) 999).1,l) else none:=rfl
def done {α:Type} : Option (α × List ByteArray)→Option α
 | some (x,[])=>some x
 | _=>none
def typC (l:List ByteArray):Option (Ty × List ByteArray):=match l with
 | []=>none
 | x :: l =>
  if un x=[105,110,116] then some (⟨1,0,0,[]⟩,l)
  else if un x=[112,116,114] then (match markC 116 l with
   | none=>none
   | some (e,l)=>some (⟨2,e,0,[]⟩,l))
  else if un x=[102,110] then (match markC 116 l with
   | none=>none
   | some (e,l)=>(marksO 116 l).map fun r=>(⟨3,e,0,r⟩,[]))
  else if un x=[115,116,114,117,99,116] then (marksO 116 l).map fun r=>(⟨4,0,0,r⟩,[])
  else if un x=[97,114,114,97,121] then (match markC 116 l with
   | none=>none
   | some (e,l)=>match smallC l with
    | none=>none
    | some (m,l)=>some (⟨5,e,m,[]⟩,l))
  else none
theorem typ_kind (l:List ByteArray):done (typC l)=kindP l:=by
 cases l with
 | nil=>rfl
 | cons x l =>
  unfold typC kindP
  simp only [List.length_cons,Nat.add_eq_zero_iff,Nat.succ_ne_self,and_false,if_false,List.getD_cons_zero,List.drop_succ_cons,List.drop_zero]
  by_cases ha:un x=[97,114,114,97,121]
  ·rw [if_pos ha]
   rw [if_neg (by rw [ha];decide),if_neg (by rw [ha];decide),if_neg (by rw [ha];decide),if_neg (by rw [ha];decide),if_pos ha]
   cases l with
   | nil=>simp [markC,done]
   | cons y l =>
    cases l with
    | nil =>
     rw [markC_cons]
     by_cases h1:(mkN y 116).2=0<;>simp [h1,smallC_nil,done]
    | cons z l =>
     rw [markC_cons]
     simp only [List.length_cons,List.getD_cons_succ,List.getD_cons_zero]
     by_cases h1:(mkN y 116).2=0
     ·by_cases h2:(NumG.sm (un z) 999).2=0
      ·cases l with
       | nil=>simp [h1,h2,done,smallC_cons]
       | cons u l=>simp [h1,h2,done,smallC_cons]
      ·simp [h1,h2,done,smallC_cons]
     ·simp [h1,done]
  ·rw [if_neg ha,if_neg ha]
   by_cases h1:un x=[105,110,116]
   ·rw [if_pos h1]
    cases l with
    | nil=>simp [marksO,done,h1]
    | cons y l =>
     simp only [done]
     cases hm:marksO 116 (y :: l) with
     | none=>rfl
     | some r=>simp [h1,marks_len hm]
   ·rw [if_neg h1]
    by_cases h2:un x=[112,116,114]
    ·rw [if_pos h2]
     cases l with
     | nil=>simp [marksO,markC,done,h2]
     | cons y l =>
      rw [markC_cons]
      by_cases hy:(mkN y 116).2=0
      ·rw [if_pos hy]
       unfold marksO
       rw [if_pos hy]
       cases l with
       | nil=>simp [marksO,done,h2]
       | cons z l =>
        simp only [done]
        cases hm:marksO 116 (z :: l) with
        | none=>simp
        | some r=>simp [h2,marks_len hm]
      ·rw [if_neg hy]
       unfold marksO
       rw [if_neg hy];rfl
    ·rw [if_neg h2]
     by_cases h3:un x=[102,110]
     ·rw [if_pos h3]
      cases l with
      | nil=>simp [marksO,markC,done,h3]
      | cons y l =>
       rw [markC_cons]
       by_cases hy:(mkN y 116).2=0
       ·rw [if_pos hy]
        rw [show marksO 116 (y :: l)=(marksO 116 l).map ((mkN y 116).1 :: ·) by rw [marksO,if_pos hy]]
        cases hm:marksO 116 l with
        | none=>simp [done,hm]
        | some r=>simp [done,hm,h3]
       ·rw [if_neg hy]
        unfold marksO
        rw [if_neg hy];rfl
     ·rw [if_neg h3]
      by_cases h4:un x=[115,116,114,117,99,116]
      ·rw [if_pos h4]
       cases hm:marksO 116 l with
       | none=>simp [done]
       | some r=>simp [done,h4]
      ·rw [if_neg h4]
       cases hm:marksO 116 l with
       | none=>simp [done]
       | some r=>simp [done,h1,h2,h3,h4]

/-! an instruction's numbers -/
def aC (b:Bool) (l:List ByteArray):Option (Int × List ByteArray):=if b=true then markC 114 l else some (0,l)
def argC (op:Int) (l:List ByteArray):Option ((List Int × List Int) × List ByteArray) :=
 if argsB op=true then (if op=22 then (pairsO l).map (fun r=>((r.map Prod.snd,r.map Prod.fst),[])) else (marksO 114 l).map fun r=>((r,[]),[])) else some (([],[]),l)
def restC (op typ a b:Int) (l:List ByteArray):Option (Ix × List ByteArray):=match numC op l with
 | none=>none
 | some (n,l)=>match argC op l with
  | none=>none
  | some ((q,f),l)=>some (⟨op,typ,a,b,n,q,f⟩,l)
def hasC (op typ:Int) (l:List ByteArray):Option (Ix × List ByteArray):=match aC (hasAB op) l with
 | none=>none
 | some (a,l)=>match aC (twoB op) l with
  | none=>none
  | some (b,l)=>restC op typ a b l
theorem q77x1 {P:Prop} (h:P:=by
 by_cases hr:argsB op=true
 ·simp only [hr,if_true,if_neg h22]
  cases hm:marksO 114 m with
  | none=>simp [done]
  | some q=>simp [done]
 ·have hr' : argsB op=false:=by simpa using hr
  simp only [hr',Bool.false_eq_true,if_false]
  cases m with
  | nil=>simp [done,marksO]
  | cons y m =>
   simp only [done]
   cases hm:marksO 114 (y :: m) with
   | none=>rfl
   | some q=>simp):P:=h
theorem rest_eq {op:Int} (h22:op≠22) (typ a b:Int) (m:List ByteArray):done (restC op typ a b m)=restP op typ a b m:=by
 unfold restC restP numC argC
 by_cases hn:hasNB op=true
 ·simp only [hn,if_true]
  cases m with
  | nil=>simp [done]
  | cons x m =>
   simp only [List.length_cons,Nat.add_eq_zero_iff,Nat.succ_ne_self,and_false,if_false,List.getD_cons_zero,List.drop_succ_cons,List.drop_zero]
   by_cases hx:(numP op x).2=true
   ·simp only [hx,if_true]
    exact q77x1
   ·have hx' : (numP op x).2=false:=by simpa using hx
    simp only [hx',Bool.false_eq_true,if_false]
    cases hm:marksO 114 m with
    | none=>simp [done]
    | some q=>simp [done]
 ·have hn' : hasNB op=false:=by simpa using hn
  simp only [hn',Bool.false_eq_true,if_false]
  exact q77x1
theorem two_ab {op:Int} (h:twoB op=true):hasAB op=true:=by unfold hasAB;rw [h];rfl
theorem has_eq (op typ:Int) (l:List ByteArray):done (hasC op typ l)=hasP op typ l:=by
 by_cases h22:op=22
 ·subst h22
  have e1:hasAB 22=false:=by decide
  have e2:twoB 22=false:=by decide
  have e3:hasNB 22=false:=by decide
  have e4:argsB 22=true:=by decide
  unfold hasC hasP restC numC argC aC phiP ix0
  simp only [e1,e2,e3,e4,Bool.false_eq_true,if_false,if_true]
  cases hp:pairsO l with
  | none=>simp [done]
  | some r=>simp [done]
 ·unfold hasC hasP
  rw [if_neg h22]
  unfold regsN aC
  by_cases h2:twoB op=true
  ·simp only [h2,two_ab h2,if_true]
   cases l with
   | nil=>simp [markC,done]
   | cons x l =>
    cases l with
    | nil =>
     rw [markC_cons]
     by_cases hx:(mkN x 114).2=0<;>simp [hx,markC_nil,done]
    | cons y l =>
     simp only [markC_cons]
     simp only [List.length_cons,List.take_succ_cons,List.take_zero,List.drop_succ_cons,List.drop_zero,marksO]
     by_cases hx:(mkN x 114).2=0
     ·by_cases hy:(mkN y 114).2=0
      ·simp only [hx,hy,if_true,Option.map_some,markC_cons]
       rw [if_neg (by omega)]
       refine (rest_eq h22 typ _ _ l).trans ?_
       simp
      ·simp only [hx,hy,if_true,if_false,Option.map_none,markC_cons]
       simp [done]
     ·simp only [hx,if_false]
      simp [done]
  ·have h2' : twoB op=false:=by simpa using h2
   simp only [h2',Bool.false_eq_true,if_false]
   by_cases h1:hasAB op=true
   ·simp only [h1,if_true]
    cases l with
    | nil=>simp [markC,done]
    | cons x l =>
     simp only [markC_cons]
     simp only [List.length_cons,List.take_succ_cons,List.take_zero,List.drop_succ_cons,List.drop_zero,marksO]
     by_cases hx:(mkN x 114).2=0
     ·simp only [hx,if_true,Option.map_some]
      rw [if_neg (by omega)]
      refine (rest_eq h22 typ _ 0 l).trans ?_
      simp
     ·simp only [hx,if_false]
      simp [done]
   ·have h1' : hasAB op=false:=by simpa using h1
    simp only [h1',Bool.false_eq_true,if_false,Nat.not_lt_zero,List.take_zero,marksO,List.drop_zero]
    refine (rest_eq h22 typ 0 0 l).trans ?_
    simp

/-! an instruction's line -/
def opC (s:List UInt8):Option Nat:=if s=[] then some 0 else if opOf s=0 then none else some (opOf s)
def opL:List ByteArray→Option (Nat × List ByteArray)
 | []=>none
 | x :: l=>(opC (un x)).map fun k=>(k,l)
def ins1 (l:List ByteArray) (reg:Int):Option Ix:=match markC 114 l with
 | none=>none
 | some (r,l)=>if r=reg then (match markC 116 l with
   | none=>none
   | some (t,l)=>match wordC l with
    | none=>none
    | some (x,l)=>if un x=[61] then (match opL l with
      | none=>none
      | some (k,l)=>if answersB k=true then done (hasC k t l) else none) else none) else none
def ins2 (l:List ByteArray):Option Ix:=match opL l with
 | none=>none
 | some (k,l)=>if answersB k=true then none else done (hasC k 0 l)
def insC (l:List ByteArray) (reg:Int):Option Ix:=if (mkN (l.getD 0 ⟨#[]⟩) 114).2=0 then ins1 l reg else ins2 l
theorem opC_some {s:List UInt8} {k:Nat} (hs:s≠[]) (h:opOf s=k) (h0:k≠0):opC s=some k:=by unfold opC;rw [if_neg hs,if_neg (by omega),h]
theorem op_word {s:List UInt8} (h:opOf s≠0):∃ k:Fin 23,opOf s=k.val∧wordsL.getD k.val []=s:=by
 unfold opOf at h ⊢
 cases hf:(List.range 23).find? (isWord s) with
 | none=>rw [hf] at h;exact absurd rfl h
 | some k =>
  have hk:=List.mem_range.1 (List.mem_of_find?_eq_some hf)
  have hw:=List.find?_some hf
  unfold isWord at hw
  simp only [Bool.and_eq_true,decide_eq_true_eq] at hw
  exact ⟨⟨k,hk⟩,rfl,hw.2⟩
def mkL (s:List UInt8) (c:UInt8):Int × Int:=match s with
 | []=>(0,10)
 | x :: t=>if x=c then NumG.sm t 999 else (0,10)
theorem mk_un (s:ByteArray) (c:UInt8):mkN s c=mkL (un s) c:=rfl
theorem op_mark:∀ k:Fin 23,(mkL (wordsL.getD k.val []) 114).2≠0:=by decide +kernel
theorem mark_op {x:ByteArray} (h:(mkN x 114).2=0):opOf (un x)=0:=by
 by_cases h0:opOf (un x)=0
 ·exact h0
 ·obtain ⟨k,_,hw⟩:=op_word h0
  rw [mk_un,← hw] at h
  exact absurd h (op_mark k)
theorem eq_mark:(mkL [61] 114).2≠0∧(mkL [61] 98).2≠0∧(mkL [61] 102).2≠0:=by decide +kernel
theorem q77x2 {P:Prop} (h:P:=by
 rw [this]
 simp only [List.length_cons,List.take_succ_cons,List.take_zero,List.drop_succ_cons,List.drop_zero]
 rw [if_neg (by omega)]
 split
 ·rfl
 ·unfold restP
  rw [if_neg (by decide)]
  split
  ·rfl
  ·rw [if_neg (by simp;decide)]):P:=h
theorem ins_eq {l:List ByteArray} (h1:1≤l.length) (hne:∀ x∈l,un x≠[]) (reg:Int):insC l reg=insP l reg:=by
 unfold insC insP opW
 cases l with
 | nil=>simp at h1
 | cons x l =>
  simp only [List.getD_cons_zero]
  by_cases hx:(mkN x 114).2=0
  ·rw [if_pos hx]
   have ho:=mark_op hx
   unfold ins1
   simp only [markC_cons,hx,if_true,ho,true_or]
   by_cases hr:(mkN x 114).1=reg
   rotate_left
   ·simp [hr]
   simp only [hr,if_true]
   cases l with
   | nil=>simp [markC_nil]
   | cons y l =>
    simp only [List.getD_cons_succ,List.getD_cons_zero]
    by_cases hy:(mkN y 116).2=0
    rotate_left
    ·simp [hy,markC_cons]
    simp only [hy,if_true,markC_cons]
    cases l with
    | nil=>simp [wordC]
    | cons z l =>
     simp only [wordC,List.getD_cons_succ,List.getD_cons_zero]
     by_cases hz:un z=[61]
     rotate_left
     ·simp only [hz,if_false,and_false]
     simp only [hz,if_true,and_true]
     cases l with
     | nil=>simp [opL]
     | cons u l =>
      have hu:un u≠[]:=hne u (by simp)
      rw [if_pos (by simp)]
      simp only [opL,List.getD_cons_zero,List.drop_succ_cons,List.drop_zero,true_and]
      by_cases h0:opOf (un u)=0
      ·have:answersB ((opOf (un u):Nat):Int)=false:=by rw [h0];decide
       rw [this]
       unfold opC
       rw [if_neg hu,if_pos h0]
       rfl
      ·rw [opC_some hu rfl h0]
       simp only [Option.map_some]
       split
       ·exact has_eq _ _ _
       ·rfl
  ·rw [if_neg hx]
   have hu:un x≠[]:=hne x (by simp)
   unfold ins2
   simp only [opL]
   by_cases h3:3 < (x :: l).length∧un ((x :: l).getD 2 ⟨#[]⟩)=[61]
   ·rw [if_pos h3,if_neg (fun h=>hx h.1)]
    by_cases h0:opOf (un x)=0
    ·unfold opC
     rw [if_neg hu,if_pos h0]
     rfl
    ·rw [opC_some hu rfl h0]
     simp only [Option.map_some]
     by_cases ha:answersB ((opOf (un x):Nat):Int)=true
     ·rw [if_pos ha]
     ·rw [if_neg ha]
      obtain ⟨k,hk,_⟩:=op_word h0
      rw [hk] at ha h0 ⊢
      have hk3:(k.val=13∨k.val=17∨k.val=21):=by
       have hlt:=k.isLt
       unfold answersB at ha
       simp at ha
       omega
      match l,h3 with
      | y :: z :: v :: m,h3 =>
       have hz:un z=[61]:=h3.2
       rcases hk3 with hk3 | hk3 | hk3<;>rw [hk3]<;>rw [has_eq]
       ·unfold hasP
        rw [if_neg (by decide)]
        have:regsN ((13:Nat):Int)=1:=by decide
        exact q77x2
       ·unfold hasP
        rw [if_neg (by decide)]
        have:regsN ((17:Nat):Int)=2:=by decide
        rw [this]
        simp only [List.length_cons,List.take_succ_cons,List.take_zero,List.drop_succ_cons,List.drop_zero,marksO]
        rw [if_neg (by omega)]
        rw [mk_un z,hz,if_neg (eq_mark.1)]
        simp
       ·unfold hasP
        rw [if_neg (by decide)]
        have:regsN ((21:Nat):Int)=1:=by decide
        exact q77x2
   ·rw [if_neg h3]
    by_cases h0:opOf (un x)=0
    ·rw [if_pos (.inl h0)]
     unfold opC
     rw [if_neg hu,if_pos h0]
     rfl
    ·rw [opC_some hu rfl h0]
     simp only [Option.map_some]
     by_cases ha:answersB ((opOf (un x):Nat):Int)=true
     ·rw [if_pos ha,if_pos (.inr ha)]
     ·rw [if_neg ha,if_neg (by rintro (h | h);exact h0 h;exact ha h)]
      exact has_eq _ _ _
end Go.Proofs.YtbebficgcemkoaaGreatDoor.RdN
namespace Go.Proofs.YtbebficgcemkoaaGreatDoor.RdV
open Go.RowKit Go.Lib TyM ShM LxM LxP LxK LxJ LxY RdM RdN

abbrev Ln:=List ByteArray
def w0 (l:Ln):List UInt8:=un (l.getD 0 ⟨#[]⟩)
def endJ (l:Ln):Option Ex:=match markC 98 l with
 | some (t,[])=>some ⟨1,0,t,0⟩
 | _=>none
def endR (l:Ln):Option Ex:=match markC 114 l with
 | some (a,[])=>some ⟨3,a,0,0⟩
 | _=>none
def endB (l:Ln):Option Ex:=match markC 114 l with
 | none=>none
 | some (a,l)=>match markC 98 l with
  | none=>none
  | some (t,l)=>match markC 98 l with
   | some (e,[])=>some ⟨2,a,t,e⟩
   | _=>none
theorem marks_nil (c:UInt8):marksO c []=some []:=rfl
theorem marks_cons (c:UInt8) (x:ByteArray) (l:List ByteArray):marksO c (x :: l)=if (mkN x c).2=0 then (marksO c l).map ((mkN x c).1 :: ·) else none:=by rw [marksO]
theorem end_j {l:Ln} (h1:1≤l.length) (h:w0 l=[106,117,109,112]):endP l=endJ (l.drop 1):=by
 unfold w0 at h
 unfold endP endJ
 rw [if_pos h]
 cases l with
 | nil=>simp at h1
 | cons x l =>
  simp only [List.drop_succ_cons,List.drop_zero]
  cases l with
  | nil=>rfl
  | cons y l =>
   rw [markC_cons,marks_cons]
   by_cases hy:(mkN y 98).2=0
   ·rw [if_pos hy,if_pos hy]
    cases l with
    | nil=>rfl
    | cons z l =>
     cases hm:marksO 98 (z :: l) with
     | none=>rfl
     | some r =>
      have:=marks_len hm
      cases r with
      | nil=>simp at this
      | cons=>rfl
   ·rw [if_neg hy,if_neg hy]
theorem end_r {l:Ln} (h1:1≤l.length) (h:w0 l=[114,101,116,117,114,110]):endP l=endR (l.drop 1):=by
 unfold w0 at h
 unfold endP endR
 rw [if_neg (by rw [h];decide)]
 cases l with
 | nil=>simp at h1
 | cons x l =>
  cases l with
  | nil=>rfl
  | cons y l =>
   rw [if_neg (by simp),if_pos h]
   simp only [List.getD_cons_succ,List.getD_cons_zero,List.drop_succ_cons,List.drop_zero,markC_cons]
   by_cases hy:(mkN y 114).2=0
   ·cases l with
    | nil=>simp [hy,marks_nil]
    | cons z l =>
     have:marksO 98 (z :: l)≠some []:=fun h=>by
      have:=marks_len h
      simp at this
     simp [hy,this]
   ·simp [hy]
theorem end_b {l:Ln} (h1:1≤l.length) (h:w0 l=[98,114,97,110,99,104]):endP l=endB (l.drop 1):=by
 unfold w0 at h
 unfold endP endB
 rw [if_neg (by rw [h];decide)]
 cases l with
 | nil=>simp at h1
 | cons x l =>
  cases l with
  | nil=>rfl
  | cons y l =>
   rw [if_neg (by simp),if_neg (by rw [h];decide)]
   simp only [List.getD_cons_succ,List.getD_cons_zero,List.drop_succ_cons,List.drop_zero,markC_cons]
   by_cases hy:(mkN y 114).2=0
   ·rw [if_pos hy,if_pos hy]
    cases l with
    | nil=>simp [marks_nil,markC_nil]
    | cons z l =>
     simp only [markC_cons,marks_cons]
     by_cases hz:(mkN z 98).2=0
     ·rw [if_pos hz,if_pos hz]
      cases l with
      | nil=>simp [marks_nil,markC_nil]
      | cons u l =>
       simp only [markC_cons,marks_cons]
       by_cases hu:(mkN u 98).2=0
       ·rw [if_pos hu,if_pos hu]
        cases l with
        | nil=>simp [marks_nil]
        | cons v l =>
         cases hm:marksO 98 (v :: l) with
         | none=>simp
         | some r =>
          have:=marks_len hm
          cases r with
          | nil=>simp at this
          | cons=>simp
       ·rw [if_neg hu,if_neg hu];rfl
     ·rw [if_neg hz,if_neg hz]
   ·rw [if_neg hy,if_neg hy]

def blockP:List Ln→Int→Option (Bx × Nat)
 | [],_=>none
 | l :: L,reg =>
  if isEndB (w0 l)=true then (endP l).map fun e=>(⟨[],e⟩,1)
  else match insP l reg with
   | none=>none
   | some x=>(blockP L (reg+1)).map fun r=>(⟨x :: r.1.ins,r.1.en⟩,r.2+1)
theorem block_len:∀ {L:List Ln} {reg:Int} {b:Bx} {n:Nat},blockP L reg=some (b,n)→n=b.ins.length+1∧n≤L.length
 | [],_,_,_,h=>by cases h
 | l :: L,reg,b,n,h=>by
  unfold blockP at h
  split at h
  ·cases he:endP l with
   | none=>rw [he] at h;cases h
   | some e=>rw [he] at h;cases h;simp
  ·split at h
   ·cases h
   ·cases hb:blockP L (reg+1) with
    | none=>rw [hb] at h;cases h
    | some r =>
     obtain ⟨r,m⟩:=r
     rw [hb] at h;cases h
     have:=block_len hb
     simp only [List.length_cons]
     omega
def blocksP (L:List Ln) (reg:Int):Option (List Bx × Nat) :=
 match L with
 | []=>some ([],0)
 | l :: M =>
  if w0 l=[98,108,111,99,107] then
   (if l.length=1 then (match blockP M reg with
    | none=>none
    | some (b,n)=>match blocksP (M.drop n) (reg+b.ins.length) with
     | none=>none
     | some (bs,m)=>some (b :: bs,1+n+m)) else none)
  else some ([],0)
termination_by L.length
decreasing_by simp;omega
theorem blocks_nil (reg:Int):blocksP [] reg=some ([],0):=by rw [blocksP]
theorem blocks_cons (l : Ln) (M : List Ln) (reg : Int) : blocksP (l :: M) reg = if w0 l = [98, 108, 111, 99, 107] then
      (if l.length=1 then (match blockP M reg with
        | none=>none
        | some (b,n)=>match blocksP (M.drop n) (reg+b.ins.length) with
          | none=>none
          | some (bs,m)=>some (b :: bs,1+n+m)) else none)
  else some ([],0):=by rw [blocksP]
def manyL (bs:List Bx):Nat:=(bs.map fun b=>b.ins.length+2).sum
theorem blocks_len:∀ (k:Nat) {L:List Ln} {reg:Int} {bs:List Bx} {n:Nat},L.length≤k→blocksP L reg=some (bs,n)→n=manyL bs∧n≤L.length
 | 0,L,reg,bs,n,hk,h=>by
  obtain rfl:L=[]:=List.eq_nil_of_length_eq_zero (by omega)
  rw [blocks_nil] at h;cases h
  exact ⟨rfl,Nat.le_refl _⟩
 | k+1,[],reg,bs,n,hk,h=>by
  rw [blocks_nil] at h;cases h
  exact ⟨rfl,Nat.le_refl _⟩
 | k+1,l :: M,reg,bs,n,hk,h=>by
  rw [blocks_cons] at h
  split at h
  ·split at h
   ·cases hb:blockP M reg with
    | none=>rw [hb] at h;cases h
    | some r =>
     obtain ⟨b,n1⟩:=r
     rw [hb] at h
     simp only at h
     cases hc:blocksP (M.drop n1) (reg+b.ins.length) with
     | none=>rw [hc] at h;cases h
     | some r =>
      obtain ⟨bs2,m⟩:=r
      rw [hc] at h
      cases h
      have h1:=block_len hb
      have h2:=blocks_len k (by rw [List.length_drop];simp at hk;omega) hc
      rw [List.length_drop] at h2
      refine ⟨?_,by simp;omega⟩
      unfold manyL
      simp only [List.map_cons,List.sum_cons]
      have:=h2.1
      unfold manyL at this
      omega
   ·cases h
  ·cases h
   exact ⟨rfl,Nat.zero_le _⟩
def regOf (ts:List Ty) (sig:Int):Int:=match ts[sig.toNat]? with
 | some t=>t.parts.length
 | none=>0
def funcP (ts:List Ty) (sig:Int) (L:List Ln):Option (Fx × Nat):=(blocksP L (regOf ts sig)).map fun r=>(⟨sig,r.1⟩,r.2)
theorem func_len {ts:List Ty} {sig:Int} {L:List Ln} {f:Fx} {n:Nat} (h:funcP ts sig L=some (f,n)):n=manyL f.blocks∧n≤L.length:=by
 unfold funcP at h
 cases hb:blocksP L (regOf ts sig) with
 | none=>rw [hb] at h;cases h
 | some r =>
  obtain ⟨bs,m⟩:=r
  rw [hb] at h;cases h
  exact blocks_len _ (Nat.le_refl _) hb
def funcsP (ts:List Ty) (L:List Ln):Option (List Fx) :=
 match L with
 | []=>some []
 | l :: M =>
  if l.length=2∧w0 l=[102,117,110,99] then
   (if (mkN (l.getD 1 ⟨#[]⟩) 116).2=0 then (match funcP ts (mkN (l.getD 1 ⟨#[]⟩) 116).1 M with
    | none=>none
    | some (f,n)=>(funcsP ts (M.drop n)).map fun fs=>f :: fs) else none)
  else none
termination_by L.length
decreasing_by simp;omega
theorem funcs_nil (ts:List Ty):funcsP ts []=some []:=by rw [funcsP]
theorem funcs_cons (ts : List Ty) (l : Ln) (M : List Ln) : funcsP ts (l :: M) = if l.length = 2 ∧ w0 l = [102, 117, 110, 99] then
      (if (mkN (l.getD 1 ⟨#[]⟩) 116).2=0 then (match funcP ts (mkN (l.getD 1 ⟨#[]⟩) 116).1 M with
        | none=>none
        | some (f,n)=>(funcsP ts (M.drop n)).map fun fs=>f :: fs) else none)
  else none:=by rw [funcsP]
def typesP:List Ln→Option (List Ty × List Ln)
 | []=>some ([],[])
 | l :: M=>if w0 l=[116,121,112,101] then (match kindP (l.drop 1) with
   | none=>none
   | some t=>(typesP M).map fun r=>(t :: r.1,r.2)) else some ([],l :: M)
def programP (L:List Ln):Option Px:=match typesP L with
 | none=>none
 | some (ts,M)=>(funcsP ts M).map fun fs=>⟨ts,fs⟩
theorem types_len:∀ {L:List Ln} {ts:List Ty} {M:List Ln},typesP L=some (ts,M)→L.length=ts.length+M.length
 | [],ts,M,h=>by cases h;rfl
 | l :: L,ts,M,h=>by
  unfold typesP at h
  split at h
  ·split at h
   ·cases h
   ·cases ht:typesP L with
    | none=>rw [ht] at h;cases h
    | some r =>
     obtain ⟨a,b⟩:=r
     rw [ht] at h;cases h
     have:=types_len ht
     simp;omega
  ·cases h;simp
end Go.Proofs.YtbebficgcemkoaaGreatDoor.RdV
namespace Go.Proofs.YtbebficgcemkoaaGreatDoor.WrM
open Go.RowKit Go.Lib TyM ShM LxM LxP LxK LxJ LxY RdM RdN RdV NumP

def nmw (n:Int):ByteArray:=mk (itoa n)
def mkw (c:UInt8) (n:Int):ByteArray:=mk (c :: itoa n)
def Nn (n:Int):Prop:=0≤n∧n≤999
theorem mkun (s:ByteArray):mk (un s)=s:=rfl
theorem unmk (l:List UInt8):un (mk l)=l:=rfl
theorem sm_word {l:List UInt8} (h:(NumG.sm l 999).2=0):l=itoa (NumG.sm l 999).1∧Nn (NumG.sm l 999).1:=by
 unfold NumG.sm at h ⊢
 rw [if_neg (by decide)] at h ⊢
 split at h
 ·rename_i hc
  rw [if_pos hc]
  rcases rd_cases l with ⟨n,hn,e,hr⟩ | ⟨_,hr⟩
  ·rw [hr] at hc ⊢
   exact ⟨e.symm,hc.2⟩
  ·rw [hr] at hc;exact absurd hc.1 (by decide)
 ·cases h
theorem mkN_word {s:ByteArray} {c:UInt8} (h:(mkN s c).2=0):s=mkw c (mkN s c).1∧Nn (mkN s c).1:=by
 have e:mkN s c=mkL (un s) c:=rfl
 rw [e] at h ⊢
 cases hu:un s with
 | nil=>rw [hu] at h;cases h
 | cons x t =>
  rw [hu] at h
  unfold RdN.mkL at h ⊢
  simp only at h ⊢
  split at h
  ·rename_i hx
   rw [if_pos hx]
   obtain ⟨h1,h2⟩:=sm_word h
   refine ⟨?_,h2⟩
   rw [← mkun s,hu,hx]
   unfold mkw
   rw [← h1]
  ·cases h
theorem marks_word {c:UInt8} : ∀ {L:List ByteArray} {l:List Int},marksO c L=some l→L=l.map (mkw c)∧∀ n∈l,Nn n
 | [],l,h=>by cases h;exact ⟨rfl,fun n hn=>by cases hn⟩
 | x :: L,l,h=>by
  rw [marks_cons] at h
  split at h
  ·rename_i hx
   cases hm:marksO c L with
   | none=>rw [hm] at h;cases h
   | some r =>
    rw [hm] at h
    cases h
    obtain ⟨h1,h2⟩:=marks_word hm
    obtain ⟨h3,h4⟩:=mkN_word hx
    refine ⟨by rw [List.map_cons,← h1,← h3],fun n hn=>?_⟩
    rcases List.mem_cons.1 hn with rfl | hn
    ·exact h4
    ·exact h2 n hn
  ·cases h
def pairW:List (Int × Int)→List ByteArray
 | []=>[]
 | p :: l=>mkw 98 p.1 :: mkw 114 p.2 :: pairW l
theorem pairs_word:∀ {L:List ByteArray} {l:List (Int × Int)},pairsO L=some l→L=pairW l∧∀ p∈l,Nn p.1∧Nn p.2
 | [],l,h=>by cases h;exact ⟨rfl,fun p hp=>by cases hp⟩
 | [_],l,h=>by cases h
 | a :: b :: L,l,h=>by
  rw [pairsO] at h
  split at h
  ·rename_i hx
   cases hm:pairsO L with
   | none=>rw [hm] at h;cases h
   | some r =>
    rw [hm] at h
    cases h
    obtain ⟨h1,h2⟩:=pairs_word hm
    obtain ⟨h3,h4⟩:=mkN_word hx.1
    obtain ⟨h5,h6⟩:=mkN_word hx.2
    refine ⟨?_,fun n hn=>?_⟩
    ·unfold pairW
     rw [← h1,← h3,← h5]
    rcases List.mem_cons.1 hn with rfl | hn
    ·exact ⟨h4,h6⟩
    ·exact h2 n hn
  ·cases h

/-! a type's words, behind 'type' -/
def kindW (t:Ty):List ByteArray :=
 if t.kind=2 then [mk [112,116,114],mkw 116 t.elem]
 else if t.kind=3 then mk [102,110] :: mkw 116 t.elem :: t.parts.map (mkw 116)
 else if t.kind=4 then mk [115,116,114,117,99,116] :: t.parts.map (mkw 116)
 else if t.kind=5 then [mk [97,114,114,97,121],mkw 116 t.elem,nmw t.many]
 else [mk [105,110,116]]
def TOk (t:Ty):Prop:=(t.kind=1∧t.elem=0∧t.many=0∧t.parts=[])∨(t.kind=2∧Nn t.elem∧t.many=0∧t.parts=[])∨(t.kind=3∧Nn t.elem∧t.many=0∧∀ n∈t.parts,Nn n) ∨
 (t.kind=4∧t.elem=0∧t.many=0∧∀ n∈t.parts,Nn n)∨(t.kind=5∧Nn t.elem∧Nn t.many∧t.parts=[])
theorem word_of {x:ByteArray} {s:List UInt8} (h:un x=s):x=mk s:=by rw [← h];rfl
theorem markC_some {c:UInt8} {L M:List ByteArray} {n:Int} (h:markC c L=some (n,M)):L=mkw c n :: M∧Nn n:=by
 cases L with
 | nil=>cases h
 | cons x l =>
  rw [markC_cons] at h
  split at h
  ·rename_i hx
   cases h
   obtain ⟨h1,h2⟩:=mkN_word hx
   exact ⟨by rw [← h1],h2⟩
  ·cases h
theorem smallC_some {L M:List ByteArray} {n:Int} (h:smallC L=some (n,M)):L=nmw n :: M∧Nn n:=by
 cases L with
 | nil=>cases h
 | cons x l =>
  rw [smallC_cons] at h
  split at h
  ·rename_i hx
   cases h
   obtain ⟨h1,h2⟩:=sm_word hx
   refine ⟨?_,h2⟩
   unfold nmw
   rw [← h1]
   rfl
  ·cases h
theorem done_is {α:Type} {o:Option (α × List ByteArray)} {y:α} (h:done o=some y):o=some (y,[]):=by
 match o,h with
 | some (y,[]),h=>cases h;rfl
theorem kind_word {l:List ByteArray} {t:Ty} (h:kindP l=some t):l=kindW t∧TOk t:=by
 rw [← typ_kind] at h
 replace h:=done_is h
 cases l with
 | nil=>cases h
 | cons x l =>
  unfold typC at h
  simp only at h
  split at h
  ·rename_i hx
   cases h
   exact ⟨by rw [word_of hx];rfl,.inl ⟨rfl,rfl,rfl,rfl⟩⟩
  split at h
  ·rename_i hx
   split at h
   ·cases h
   ·rename_i q m hq
    cases h
    obtain ⟨h1,h2⟩:=markC_some hq
    exact ⟨by rw [word_of hx,h1];rfl,.inr (.inl ⟨rfl,h2,rfl,rfl⟩)⟩
  split at h
  ·rename_i hx
   split at h
   ·cases h
   ·rename_i q m hq
    cases hm:marksO 116 m with
    | none=>rw [hm] at h;cases h
    | some r =>
     rw [hm] at h
     cases h
     obtain ⟨h1,h2⟩:=markC_some hq
     obtain ⟨h3,h4⟩:=marks_word hm
     exact ⟨by rw [word_of hx,h1,h3];rfl,.inr (.inr (.inl ⟨rfl,h2,rfl,h4⟩))⟩
  split at h
  ·rename_i hx
   cases hm:marksO 116 l with
   | none=>rw [hm] at h;cases h
   | some r =>
    rw [hm] at h
    cases h
    obtain ⟨h3,h4⟩:=marks_word hm
    exact ⟨by rw [word_of hx,h3];rfl,.inr (.inr (.inr (.inl ⟨rfl,rfl,rfl,h4⟩)))⟩
  split at h
  ·rename_i hx
   split at h
   ·cases h
   ·rename_i q m hq
    split at h
    ·cases h
    ·rename_i s m2 hs
     cases h
     obtain ⟨h1,h2⟩:=markC_some hq
     obtain ⟨h3,h4⟩:=smallC_some hs
     exact ⟨by rw [word_of hx,h1,h3];rfl,.inr (.inr (.inr (.inr ⟨rfl,h2,h4,rfl⟩)))⟩
  ·cases h
end Go.Proofs.YtbebficgcemkoaaGreatDoor.WrM
namespace Go.Proofs.YtbebficgcemkoaaGreatDoor.WrI
open Go.RowKit Go.Lib TyM ShM LxM LxP LxK LxJ LxY RdM RdN RdV NumP WrM

/-! an instruction's words -/
def abW (op a b:Int):List ByteArray:=(if hasAB op=true then [mkw 114 a] else [])++(if twoB op=true then [mkw 114 b] else [])
def numW (op n:Int):List ByteArray:=if op=1∨op=14 then [nmw n] else if op=3∨op=18 then [mkw 102 n] else []
def argW (x:Ix):List ByteArray:=if x.op=22 then pairW (x.frm.zip x.args) else x.args.map (mkw 114)
def hasW (x:Ix):List ByteArray:=abW x.op x.a x.b++(numW x.op x.n++argW x)
def opw (op:Int):ByteArray:=mk (wordsL.getD op.toNat [])
def insW (x:Ix) (reg:Int):List ByteArray:=(if answersB x.op=true then [mkw 114 reg,mkw 116 x.typ,mk [61]] else [])++(opw x.op :: hasW x)
structure IOk (x:Ix):Prop where
 op:1≤x.op∧x.op≤22
 typ:Nn x.typ
 typ0:answersB x.op=false→x.typ=0
 a:Nn x.a
 a0:hasAB x.op=false→x.a=0
 b:Nn x.b
 b0:twoB x.op=false→x.b=0
 n:I64 x.n
 n1:hasNB x.op=true→x.op≠1→Nn x.n
 n0:hasNB x.op=false→x.n=0
 args:∀ q∈x.args,Nn q
 args0:argsB x.op=false→x.args=[]
 frm:∀ q∈x.frm,Nn q
 frm0:x.op≠22→x.frm=[]
 frm1:x.op=22→x.frm.length=x.args.length
theorem aC_word {f:Bool} {a:Int} {l m:List ByteArray} (h:aC f l=some (a,m)):l=(if f=true then [mkw 114 a] else [])++m∧Nn a∧(f=false→a=0):=by
 unfold aC at h
 cases f with
 | false=>cases h;exact ⟨rfl,⟨Int.le_refl _,by decide⟩,fun _=>rfl⟩
 | true =>
  obtain ⟨h1,h2⟩:=markC_some h
  exact ⟨h1,h2,fun e=>by cases e⟩
theorem q142x1 {P:Prop} (h:P:=by
 rw [e] at hx ⊢
 simp only [decide_eq_true_eq] at hx
 obtain ⟨h1,h2⟩:=mkN_word hx
 refine ⟨?_,by unfold I64;unfold Nn at h2;simp only;omega,fun _ _=>h2,fun e=>by cases e⟩
 show x :: m=mkw 102 _ :: m
 rw [← h1]):P:=h
theorem num_word {op n:Int} {l m:List ByteArray} (h:numC op l=some (n,m)):l=numW op n++m∧I64 n∧(hasNB op=true→op≠1→Nn n)∧(hasNB op=false→n=0):=by
 unfold numC at h
 by_cases hn:hasNB op=true
 ·rw [if_pos hn] at h
  have hc:op=1∨op=3∨op=14∨op=18:=by simpa [hasNB] using hn
  cases l with
  | nil=>cases h
  | cons x l =>
   simp only at h
   split at h
   ·rename_i hx
    cases h
    have hf:hasNB op=false→(numP op x).1=0:=fun e=>by rw [e] at hn;cases hn
    rcases hc with rfl | rfl | rfl | rfl
    ·simp only [numP,if_true,decide_eq_true_eq] at hx ⊢
     rcases rd_cases (un x) with ⟨k,hk,e,hr⟩ | ⟨_,hr⟩
     ·rw [hr]
      refine ⟨?_,hk,fun _ h=>absurd rfl h,fun e=>by cases e⟩
      show x :: m=nmw k :: m
      unfold nmw
      rw [e,mkun]
     ·rw [hr] at hx;exact absurd hx (by decide)
    ·have e:numP 3 x=((mkN x 102).1,decide ((mkN x 102).2=0)):=rfl
     exact q142x1
    ·have e:numP 14 x=((NumG.sm (un x) 999).1,decide ((NumG.sm (un x) 999).2=0)):=rfl
     rw [e] at hx ⊢
     simp only [decide_eq_true_eq] at hx
     obtain ⟨h1,h2⟩:=sm_word hx
     refine ⟨?_,by unfold I64;unfold Nn at h2;simp only;omega,fun _ _=>h2,fun e=>by cases e⟩
     show x :: m=nmw _ :: m
     unfold nmw
     rw [← h1,mkun]
    ·have e:numP 18 x=((mkN x 102).1,decide ((mkN x 102).2=0)):=rfl
     exact q142x1
   ·cases h
 ·rw [if_neg hn] at h
  cases h
  have hc:¬ (op=1∨op=3∨op=14∨op=18):=by simpa [hasNB] using hn
  refine ⟨?_,by unfold I64;omega,fun e=>absurd e hn,fun _=>rfl⟩
  unfold numW
  rw [if_neg (by omega),if_neg (by omega)]
  rfl
theorem zip_parts {α β:Type} : ∀ r:List (α × β),(r.map Prod.fst).zip (r.map Prod.snd)=r
 | []=>rfl
 | p :: r=>by simp [zip_parts r]
theorem opL_cons (x:ByteArray) (l:List ByteArray):opL (x :: l)=(opC (un x)).map fun k=>(k,l):=rfl
theorem two_args {op:Int} (h:argsB op=true):op=18∨op=19∨op=22:=by simpa [argsB] using h
theorem has_word {op typ:Int} {l m:List ByteArray} {x:Ix} (h:hasC op typ l=some (x,m)):l=abW x.op x.a x.b++(numW x.op x.n++(if argsB x.op=true then argW x else [])++m)∧x.op=op∧x.typ=typ∧(Nn x.a∧(hasAB op=false→x.a=0))∧(Nn x.b∧(twoB op=false→x.b=0)) ∧
  (I64 x.n∧(hasNB op=true→op≠1→Nn x.n)∧(hasNB op=false→x.n=0))∧(∀ q∈x.args,Nn q)∧(argsB op=false→x.args=[])∧(∀ q∈x.frm,Nn q)∧(op≠22→x.frm=[])∧(op=22→x.frm.length=x.args.length)∧(argsB op=true→m=[]):=by
 unfold hasC at h
 cases h1:aC (hasAB op) l with
 | none=>rw [h1] at h;cases h
 | some r =>
  obtain ⟨a,l1⟩:=r
  rw [h1] at h
  simp only at h
  cases h2:aC (twoB op) l1 with
  | none=>rw [h2] at h;cases h
  | some r =>
   obtain ⟨b,l2⟩:=r
   rw [h2] at h
   simp only at h
   unfold restC at h
   cases h3:numC op l2 with
   | none=>rw [h3] at h;cases h
   | some r =>
    obtain ⟨n,l3⟩:=r
    rw [h3] at h
    simp only at h
    obtain ⟨e1,a1,a2⟩:=aC_word h1
    obtain ⟨e2,b1,b2⟩:=aC_word h2
    obtain ⟨e3,n1,n2,n3⟩:=num_word h3
    unfold argC at h
    by_cases hr:argsB op=true
    ·rw [if_pos hr] at h
     by_cases h22:op=22
     ·rw [if_pos h22] at h
      cases hp:pairsO l3 with
      | none=>rw [hp] at h;cases h
      | some r =>
       rw [hp] at h
       cases h
       obtain ⟨p1,p2⟩:=pairs_word hp
       refine ⟨?_,rfl,rfl,⟨a1,a2⟩,⟨b1,b2⟩,⟨n1,n2,n3⟩,?_,?_,?_,fun e=>absurd h22 e,fun _=>by simp,fun _=>rfl⟩
       ·simp only
        rw [if_pos hr]
        unfold argW
        simp only
        rw [if_pos h22,zip_parts r,← p1,List.append_nil,← e3]
        unfold abW
        rw [List.append_assoc,← e2,← e1]
       ·intro q hq
        obtain ⟨p,hp,rfl⟩:=List.mem_map.1 hq
        exact (p2 p hp).2
       ·intro e;rw [e] at hr;cases hr
       ·intro q hq
        obtain ⟨p,hp,rfl⟩:=List.mem_map.1 hq
        exact (p2 p hp).1
     ·rw [if_neg h22] at h
      cases hp:marksO 114 l3 with
      | none=>rw [hp] at h;cases h
      | some r =>
       rw [hp] at h
       cases h
       obtain ⟨p1,p2⟩:=marks_word hp
       refine ⟨?_,rfl,rfl,⟨a1,a2⟩,⟨b1,b2⟩,⟨n1,n2,n3⟩,p2,?_,by simp,fun _=>rfl,fun e=>absurd e h22,fun _=>rfl⟩
       ·simp only
        rw [if_pos hr]
        unfold argW
        simp only
        rw [if_neg h22,← p1,List.append_nil,← e3]
        unfold abW
        rw [List.append_assoc,← e2,← e1]
       ·intro e;rw [e] at hr;cases hr
    ·rw [if_neg hr] at h
     cases h
     refine ⟨?_,rfl,rfl,⟨a1,a2⟩,⟨b1,b2⟩,⟨n1,n2,n3⟩,by simp,fun _=>rfl,by simp,fun _=>rfl,fun _=>rfl,fun e=>absurd e hr⟩
     simp only
     rw [if_neg hr,List.append_nil,← e3]
     unfold abW
     rw [List.append_assoc,← e2,← e1]
theorem opC_word {x:ByteArray} {k:Nat} (hne:un x≠[]) (h:opC (un x)=some k):x=opw k∧1≤k∧k≤22:=by
 unfold opC at h
 rw [if_neg hne] at h
 split at h
 ·cases h
 ·rename_i h0
  cases h
  obtain ⟨j,hj,hw⟩:=op_word h0
  rw [hj] at h0 ⊢
  refine ⟨?_,by omega,by omega⟩
  unfold opw
  rw [Int.toNat_natCast,hw]
  rfl
theorem insC_word {l:List ByteArray} {x:Ix} {reg:Int} (hne:∀ y∈l,un y≠[]) (h:insC l reg=some x):l=insW x reg∧IOk x:=by
 have fin:∀ {op typ:Int} {m:List ByteArray},(1≤op∧op≤22)→Nn typ→(answersB op=false→typ=0)→hasC op typ m=some (x,[])→m=hasW x∧IOk x∧x.op=op∧x.typ=typ:=by
  intro op typ m ho ht ht0 hh
  obtain ⟨e,rfl,rfl,⟨a1,a2⟩,⟨b1,b2⟩,⟨n1,n2,n3⟩,c1,c2,c3,c4,c5,c6⟩:=has_word hh
  refine ⟨?_,⟨ho,ht,ht0,a1,a2,b1,b2,n1,n2,n3,c1,c2,c3,c4,c5⟩,rfl,rfl⟩
  rw [e,List.append_nil]
  unfold hasW
  by_cases hr:argsB x.op=true
  ·rw [if_pos hr]
  ·rw [if_neg hr]
   have h22:x.op≠22:=fun e=>hr (by rw [e];decide)
   have:argW x=[]:=by unfold argW;rw [if_neg h22,c2 (by simpa using hr)];rfl
   rw [this]
 unfold insC at h
 split at h
 ·unfold ins1 at h
  cases h1:markC 114 l with
  | none=>rw [h1] at h;cases h
  | some r =>
   obtain ⟨r,l1⟩:=r
   rw [h1] at h
   simp only at h
   obtain ⟨e1,_⟩:=markC_some h1
   split at h
   ·rename_i hr
    subst hr
    cases h2:markC 116 l1 with
    | none=>rw [h2] at h;cases h
    | some t =>
     obtain ⟨t,l2⟩:=t
     rw [h2] at h
     simp only at h
     obtain ⟨e2,ht⟩:=markC_some h2
     cases l2 with
     | nil=>cases h
     | cons z l3 =>
      simp only [wordC] at h
      split at h
      ·rename_i hz
       cases h3:opL l3 with
       | none=>rw [h3] at h;cases h
       | some k =>
        obtain ⟨k,l4⟩:=k
        rw [h3] at h
        simp only at h
        cases l3 with
        | nil=>cases h3
        | cons y l3 =>
         rw [opL_cons] at h3
         cases ho:opC (un y) with
         | none=>rw [ho] at h3;cases h3
         | some j =>
          rw [ho] at h3
          cases h3
          obtain ⟨ey,hk⟩:=opC_word (hne y (by rw [e1,e2];simp)) ho
          split at h
          ·rename_i ha
           obtain ⟨e,hi,hop,htt⟩:=fin (by omega) ht (fun e=>by rw [ha] at e;cases e) (done_is h)
           refine ⟨?_,hi⟩
           unfold insW
           rw [hop,htt,if_pos ha,e1,e2,word_of hz,ey,← e]
           rfl
          ·cases h
      ·cases h
   ·cases h
 ·unfold ins2 at h
  cases h3:opL l with
  | none=>rw [h3] at h;cases h
  | some k =>
   obtain ⟨k,l4⟩:=k
   rw [h3] at h
   simp only at h
   cases l with
   | nil=>cases h3
   | cons y l3 =>
    rw [opL_cons] at h3
    cases ho:opC (un y) with
    | none=>rw [ho] at h3;cases h3
    | some j =>
     rw [ho] at h3
     cases h3
     obtain ⟨ey,hk⟩:=opC_word (hne y (by simp)) ho
     split at h
     ·cases h
     ·rename_i ha
      obtain ⟨e,hi,hop,htt⟩:=fin (by omega) ⟨Int.le_refl _,by decide⟩ (fun _=>rfl) (done_is h)
      refine ⟨?_,hi⟩
      unfold insW
      rw [hop,if_neg ha,ey,← e]
      rfl
end Go.Proofs.YtbebficgcemkoaaGreatDoor.WrI
