/- Walks over fescueref07.marks, Word, operation, number; fescueref06.HasN. General: cells of a block, later; slices behind their first elements as run equations; blocks stored into whole. The reader in memory: where it stands; what a call of its methods keeps; a way out by a panic. Walks over the reader's over, word, mark, small. Walks over the reader's small, next. Walk over the reader's begins. Walk over the reader's parts; the reader is kept where a row of another type grows. Walk over the reader's number. Numbers in a block of their own: kept where other blocks are written; behind the first ones. Walks over fescueref07.Word and operation. Walk over fescueref07.isEnd. An instruction's box with two lists that grow. Walk over fescueref07.phi. Parts of a line as they lie in memory, and the words that they tell. Which part an interface value of the writer's holds: type assertions with ok. -/
import Derived.Test.YtbebficgcemkoaaGreatDoorYLxKToWrI
import Derived.Test.YtbebficgcemkoaaGreatDoorYRwHToShTB
import Derived.Test.YtbebficgcemkoaaGreatDoorYIntOToAft
import Derived.BigGuardPart
import Derived.SliceStrings
import Derived.WalkKit
import Derived.WalkSmall
import Derived.WalkSpells
import Derived.WalkLawsBesides
import Derived.Test.YtbebficgcemkoaaGreatDoorYLxCToLxV
import Derived.Test.YtbebficgcemkoaaGreatDoorYNumEToNumG
import Derived.BigRegion
import Derived.Deep.LoopGhost
import Derived.Test.YtbebficgcemkoaaGreatDoorYFresh
import Derived.Test.YtbebficgcemkoaaGreatDoorYTyTPToRwO
set_option maxRecDepth 100000
set_option maxHeartbeats 16000000
namespace Go.Proofs.YtbebficgcemkoaaGreatDoor.RdA
open Go.RowKit Go.Lib TyM TyP ShM ShP ShB IntO SetP LxM LxJ LxY RdM Aft

def MarksR (c:UInt8) (l:List ByteArray) (w:World) (e:Ending) (w' : World):Prop :=
 ∃ u xs,e=.returned (.tuple #[u,.bool (marksO c l).isSome])∧w'.ownsRow w.heap.size 3 1 u xs.length (intVals xs)∧(∀ r,marksO c l=some r→xs=r)∧(marksO c l=none→xs=[])∧Below w.heap.size w w'

theorem marks_calls (c:UInt8) (l:List ByteArray) (v:Value) (w:World) (hl:LxP.StrsAt w v l) (hn:l.length≤100000) (hs:∀ x∈l,x.size≤9223372036854775807) :
  Calls Tryz.prog 148 #[v,.int .u8 (c.toNat:Int)] w (MarksR c l w):=by
 have HL:=hid hl
 have HS:=hid hs
 obtain ⟨ao,cap,rfl,hll⟩:=hl.slice
 clear hl hs
 go_enter Tryz.func148,Tryz.ntmps148
 go_wp2
 go_loopg [6,7] l.length (fun gk u i wr=>∃ (k:Nat) (xs:List Int),k+gk=l.length∧i=.int .i64 k∧marksO c (l.take k)=some xs∧wr.ownsRow w.heap.size 3 1 u xs.length (intVals xs)∧Aft w wr)
 case atStart=>exact ⟨0,[],by omega,rfl,rfl,World.ownsRow_nil _ _ _ _,Aft.refl _⟩
 case round =>
  obtain ⟨k,xs,hk,rfl,hm,hown,hr⟩:=hrel
  have HK:=hid hk
  have HM:=hid hm
  have hxl:xs.length=k:=by
   have:=marks_len hm
   rw [this,List.length_take]
   omega
  have HXL:=hid hxl
  by_cases hlt:k < l.length
  rotate_left
  ·obtain rfl:k=l.length:=by omega
   have hmm:marksO c l=some xs:=by
    have:=HM.out
    rwa [List.take_length] at this
   obtain ⟨a,n,rfl⟩:=own_slice hown
   have HR:Hid (MarksR c l w (.returned (.tuple #[.slice a xs.length n,.bool true])) wr):=⟨_,xs,by rw [hmm];rfl,hown,fun r h=>by rw [hmm] at h;exact Option.some.inj h,(fun h=>by rw [hmm] at h;cases h),hr.below⟩
   clear hm hown hk hmm hxl
   generalize l.length=len at *
   go_wp2
   go_ret2
   exact HR.out
  obtain ⟨b,off,rfl,hb,c0⟩:=HL.out.at k hlt
  have d0:=later c0
  have HC:=hid (markR_calls l[k] (HS.out _ (List.getElem_mem hlt)) c wr)
  have HB:Hid ((mkN l[k] c).2≠0→marksO c l=none):=fun h=>marks_bad hlt h
  have HN:Hid ((mkN l[k] c).2=0→marksO c (l.take (k+1))=some (xs++[(mkN l[k] c).1])):=fun h=>by
   rw [List.take_succ_eq_append_getElem hlt]
   exact marks_snoc h HM.out
  have HO:=hid hown
  obtain ⟨ua,un,rfl⟩:=own_slice hown
  clear hm hown hb c0 hk hxl
  have hlk:(k:Int) < l.length:=by omega
  generalize l[k]=s at *
  unfold MkR at HC
  generalize (mkN s c).1=q at *
  generalize (mkN s c).2=eq at *
  go_wp2_with fail
  refine HC.out.mono ?_
  rintro e w1 ⟨rfl,hb1⟩
  have h1:=hr.go hb1
  have HB1:=hid hb1
  clear hb1 HC
  by_cases he:eq=0
  rotate_left
  ·have hne:(eq != 0)=true:=by simpa using he
   have hmn:=HB.out he
   have HR:Hid (MarksR c l w (.returned (.tuple #[.slice none 0 0,.bool false])) w1):=⟨_,[],by rw [hmn];rfl,World.ownsRow_nil _ _ _ _,(fun r h=>by rw [hmn] at h;cases h),(fun _=>rfl),h1.below⟩
   clear hmn HB HN he
   go_wp2
   go_ret2
   exact HR.out
  subst he
  have hmx:=HN.out rfl
  have HNX:=hid hmx
  have h2:=h1.alloc (.cells #[.int .i64 q] 3)
  have ho2:=(IntO.ownsRow_below HO.out HB1.out).alloc (.cells #[.int .i64 q] 3)
  have HO2:=hid ho2
  have HI:=hid (ints_one (w:=w1.alloc (.cells #[.int .i64 q] 3)) (b:=w1.heap.size) (n:=q) (cell_new _ _ _ _ rfl) (size_new _ _ _ rfl))
  have HH2:=hid h2
  have hsz:w.heap.size≤(w1.alloc (.cells #[.int .i64 q] 3)).heap.size:=h2.size
  clear hmx h2 ho2 HO HB HN HB1
  go_wp2_with (at_builtin;refine wpList_append_ints rfl (.tmp 27) (.tmp 29) rfl w.heap.size (.slice ua xs.length un) rfl xs.length (intVals xs) HO2.out (by have:=HXL.out;omega) (.slice (some ⟨w1.heap.size,0,none⟩) 1 1) [q] rfl HI.out (by simp) hsz ?_)
  intro v' w' hown' hgr
  have h3:Aft w w':=own_grown HH2.out.below HO2.out hgr hsz
  have HNO:Hid (w'.ownsRow w.heap.size 3 1 v' (xs++[q]).length (intVals (xs++[q]))):=by
   show World.ownsRow _ _ _ _ _ _ _
   rw [intVals_append,List.length_append]
   exact hown'
  obtain ⟨va,vn,rfl⟩:=own_slice hown'
  clear hown' hgr HI HO2 HH2 h1 hr d0
  go_wp2
  go_roundg (gk - 1)
  case measure=>have:=HK.out;omega
  case rel=>exact ⟨k+1,xs++[q],by have:=HK.out;omega,by go_num,HNX.out,HNO.out,h3⟩

theorem hasN_calls (op:Int) (w:World):Calls Tryz.prog 188 #[.int .u8 op] w (PureR (hasNB op) w):=by
 have hb:hasNB op=((op == 1) || ((op == 3) || ((op == 14) || (op == 18)))):=by
  unfold hasNB
  rw [Bool.eq_iff_iff]
  simp
 rw [hb]
 clear hb
 cases e1:(op == 1) with
 | true =>
  go_enter Tryz.func188,Tryz.ntmps188
  go_wp2
  go_ret
  exact ⟨rfl,rfl⟩
 | false =>
 cases e2:(op == 3) with
 | true =>
  go_enter Tryz.func188,Tryz.ntmps188
  go_wp2
  go_ret
  exact ⟨rfl,rfl⟩
 | false =>
 cases e3:(op == 14) with
 | true =>
  go_enter Tryz.func188,Tryz.ntmps188
  go_wp2
  go_ret
  exact ⟨rfl,rfl⟩
 | false =>
  go_enter Tryz.func188,Tryz.ntmps188
  go_wp2
  go_ret
  exact ⟨rfl,rfl⟩

def NumIR (op:Int) (s:ByteArray) (w:World) (e:Ending) (w' : World):Prop:=e=.returned (.tuple #[.int .i64 (numP op s).1,.bool (numP op s).2])∧Below w.heap.size w w'
theorem q59x1 {P:Prop} (h:P:=by
 obtain ⟨m,e⟩:=r
 simp only at *
 go_enter Tryz.func189,Tryz.ntmps189
 go_wp2_with fail
 refine HC.out.mono ?_
 rintro e w1 ⟨rfl,hb⟩
 clear HC
 go_wp2
 go_ret2
 exact ⟨rfl,hb⟩):P:=h
theorem number_calls (op:Int) (s:ByteArray) (hs:s.size≤9223372036854775807) (w:World):Calls Tryz.prog 189 #[.int .u8 op,.string s] w (NumIR op s w):=by
 unfold NumIR numP
 by_cases h1:op=1
 ·rw [if_pos h1]
  subst h1
  have HC:=hid (NumR.read_calls s hs w)
  have hd:decide ((NumP.rd (un s)).2=0)=((NumP.rd (un s)).2 == 0):=by rw [Bool.eq_iff_iff];simp
  rw [hd]
  clear hd
  unfold NumR.RdPost at HC
  unfold un at *
  generalize NumP.rd s.data.toList=r at *
  exact q59x1
 rw [if_neg h1]
 have e1:(op == 1)=false:=by simpa using h1
 by_cases h14:op=14
 ·rw [if_pos h14]
  subst h14
  have HC:=hid (NumH.ref_small_calls s hs 999 w)
  have hd:decide ((NumG.sm (un s) 999).2=0)=((NumG.sm (un s) 999).2 == 0):=by rw [Bool.eq_iff_iff];simp
  rw [hd]
  clear hd
  unfold NumG.SmPost at HC
  unfold un at *
  generalize NumG.sm s.data.toList 999=r at *
  exact q59x1
 rw [if_neg h14]
 have e14:(op == 14)=false:=by simpa using h14
 have HC:=hid (markR_calls s hs 102 w)
 have hd:decide ((mkN s 102).2=0)=((mkN s 102).2 == 0):=by rw [Bool.eq_iff_iff];simp
 rw [hd]
 clear hd h1 h14
 unfold MkR at HC
 generalize mkN s 102=r at *
 exact q59x1
end Go.Proofs.YtbebficgcemkoaaGreatDoor.RdA
namespace Go.Proofs.YtbebficgcemkoaaGreatDoor.RdB
open Go.RowKit Go.Lib TyM TyP ShM ShP ShB IntO SetP LxM LxJ RwO Aft

theorem cells_of {W:World} {b:Nat} {cs:Array Value} {ty:TypeId} (h:W.heap[b]?=some (.cells cs ty (0,0))) (i:Nat) (v:Value) (hv:cs[i]?=some v):W.cell? ⟨b,i,none⟩=some v:=by
 unfold World.cell?;rw [h];exact hv
theorem aft_heap {W w' : World} (h:Aft W w') {b:Nat} {o:Obj} (hb:W.heap[b]?=some o):w'.heap[b]?=some o:=later_heap hb w' h
theorem list_drop {ts:TypeId} (hts:Tryz.prog.underlying ts=some (.slice (Tryz.prog.elem ts))) (hsz:∀ w:World,(sizeOf (Tryz.prog.elem ts)).run Tryz.prog w=.ok 1 w) {w:World} {ao:Option Addr} {n cap:Nat} {l:List Value} (h:LxP.ListAt w (.slice ao n cap) l) {k:Nat} (hk:k≤l.length) :
  ∃ v,LxP.ListAt w v (l.drop k)∧(∀ wx:World,(Instr.slice ts (.slice ao n cap) (some (.int .i64 (k:Int))) none none).run Tryz.prog wx=.ok v wx):=by
 have hn:=h.len
 subst hn
 have hcap:=h.cap
 obtain ⟨ao2,cap2,he,hl,hm,hz,hc⟩:=h
 cases he
 refine ⟨sliced ao k l.length cap 1,?_,fun wx=>?_⟩
 ·unfold sliced
  by_cases hcx:cap=k
  ·rw [if_pos hcx]
   have:l.drop k=[]:=List.drop_eq_nil_of_le (by omega)
   rw [this]
   exact ⟨ao,cap - k,by simp;omega,by simp,(fun h=>by simp at h),(fun h=>by have:=hz h;omega),by simp⟩
  ·rw [if_neg hcx]
   by_cases h0:0 < l.length
   ·obtain ⟨b,off,rfl,hb,hx⟩:=hm h0
    refine ⟨some ⟨b,off+k,none⟩,cap - k,by simp [Addr.add],by simp;omega,fun _=>⟨b,off+k,rfl,hb,fun i hi=>?_⟩,(fun h=>by cases h),by simp;omega⟩
    have hi' : k+i < l.length:=by simp at hi;omega
    rw [List.getElem_drop,show off+k+i=off+(k+i) by omega]
    exact hx _ hi'
   ·obtain rfl:l=[]:=List.eq_nil_of_length_eq_zero (by omega)
    have hk0:k=0:=by simpa using hk
    subst hk0
    cases ao with
    | none=>exact ⟨none,cap,by simp,by simp,(fun h=>by simp at h),hz,by simp⟩
    | some a=>exact ⟨some (a.add 0),cap,by simp,by simp,(fun h=>by simp at h),(fun h=>by cases h),by simp⟩
 ·rw [run_slice_l (P:=Tryz.prog) (w:=wx) ts ao l.length cap hts .i64 k (by omega) (by omega),hsz]
  simp [Result.andThen]
theorem take_list {ts:TypeId} (hts:Tryz.prog.underlying ts=some (.slice (Tryz.prog.elem ts))) (hsz:∀ w:World,(sizeOf (Tryz.prog.elem ts)).run Tryz.prog w=.ok 1 w) {w:World} {ao:Option Addr} {n cap:Nat} {l:List Value} (h:LxP.ListAt w (.slice ao n cap) l) {k:Nat} (hk:k≤l.length) :
  ∃ v,LxP.ListAt w v (l.take k)∧(∀ wx:World,(Instr.slice ts (.slice ao n cap) none (some (.int .i64 (k:Int))) none).run Tryz.prog wx=.ok v wx):=by
 have hn:=h.len
 subst hn
 have hcap:=h.cap
 obtain ⟨ao2,cap2,he,hl,hm,hz,hc⟩:=h
 cases he
 refine ⟨sliced ao 0 k cap 1,?_,fun wx=>?_⟩
 ·have hmin:min k l.length=k:=by omega
  unfold sliced
  by_cases h0:0 < l.length
  ·obtain ⟨b,off,rfl,hb,hx⟩:=hm h0
   rw [if_neg (by omega)]
   refine ⟨some ⟨b,off,none⟩,cap,by simp [Addr.add,hmin],by simp;omega,fun _=>⟨b,off,rfl,hb,fun i hi=>?_⟩,(fun h=>by cases h),by simp;omega⟩
   have hi' : i < l.length:=by simp at hi;omega
   rw [List.getElem_take]
   exact hx _ hi'
  ·obtain rfl:l=[]:=List.eq_nil_of_length_eq_zero (by omega)
   have hk0:k=0:=by simpa using hk
   subst hk0
   cases ao with
   | none=>exact ⟨none,cap,by have:=hz rfl;simp [this],by simp,(fun h=>by simp at h),hz,by simp⟩
   | some a =>
    by_cases hc0:cap=0
    ·exact ⟨some a,cap,by simp [hc0],by simp,(fun h=>by simp at h),(fun h=>by cases h),by simp⟩
    ·exact ⟨some (a.add 0),cap,by simp [hc0],by simp,(fun h=>by simp at h),(fun h=>by cases h),by simp⟩
 ·rw [run_slice_h (P:=Tryz.prog) (w:=wx) ts ao l.length cap hts .i64 k (by omega) (by omega),hsz]
  simp [Result.andThen]
theorem sizeStr (w:World):(sizeOf (Tryz.prog.elem 74)).run Tryz.prog w=.ok 1 w:=by kernel_rfl
theorem strs_drop {w:World} {ao:Option Addr} {n cap:Nat} {l:List ByteArray} (h:LxP.StrsAt w (.slice ao n cap) l) {k:Nat} (hk:k≤l.length):∃ v,LxP.StrsAt w v (l.drop k)∧(∀ wx:World,(Instr.slice 74 (.slice ao n cap) (some (.int .i64 (k:Int))) none none).run Tryz.prog wx=.ok v wx):=by
 obtain ⟨v,h1,h2⟩:=list_drop (ts:=74) (by kernel_rfl) sizeStr h (k:=k) (by simpa using hk)
 exact ⟨v,by unfold LxP.StrsAt LxP.strs;rw [List.map_drop];exact h1,h2⟩
theorem strs_take {w:World} {ao:Option Addr} {n cap:Nat} {l:List ByteArray} (h:LxP.StrsAt w (.slice ao n cap) l) {k:Nat} (hk:k≤l.length):∃ v,LxP.StrsAt w v (l.take k)∧(∀ wx:World,(Instr.slice 74 (.slice ao n cap) none (some (.int .i64 (k:Int))) none).run Tryz.prog wx=.ok v wx):=by
 obtain ⟨v,h1,h2⟩:=take_list (ts:=74) (by kernel_rfl) sizeStr h (k:=k) (by simpa using hk)
 exact ⟨v,by unfold LxP.StrsAt LxP.strs;rw [List.map_take];exact h1,h2⟩
theorem word_at {w:World} {ao:Option Addr} {n cap:Nat} {l:List ByteArray} (h:LxP.StrsAt w (.slice ao n cap) l) (k:Nat) (hk:k < l.length):∃ b off,ao=some ⟨b,off,none⟩∧w.cell? ⟨b,off+k,none⟩=some (.string (l.getD k ⟨#[]⟩)):=by
 obtain ⟨b,off,h1,_,h2⟩:=h.at k hk
 exact ⟨b,off,h1,by rw [List.getD_eq_getElem?_getD,List.getElem?_eq_getElem hk];exact h2⟩

theorem str_eq (s:ByteArray) (l:List UInt8):(s.toList == l)=decide (un s=l):=by
 rw [Lib.toList_data,Bool.eq_iff_iff,beq_iff_eq,decide_eq_true_iff]
theorem set2_world (w:World) (b:Nat) (t:TypeId) (x0 x1:Value) (u0 u1:Value) (h:w.heap[b]?=some (.cells #[x0,x1] t (0,0))) :
  ∃ W3,W3=((w.setCell ⟨b,0,none⟩ u0).setCell ⟨b,1,none⟩ u1)∧(∀ k,k≠b→W3.heap[k]?=w.heap[k]?)∧W3.heap[b]?=some (.cells #[u0,u1] t (0,0))∧∀ B a,Below B a w→B≤b→Below B a W3 :=
 ⟨_,rfl,fun k hk=>(Below.heap_setCell _ _ _ k hk).trans (Below.heap_setCell _ _ _ k hk),(ShTB.set_heap' (i:=1) u1 (ShTB.set_heap' (i:=0) u0 h)).trans (by simp),fun B a hb hB=>((hb.setCell (p:=⟨b,0,none⟩) hB u0).setCell (p:=⟨b,1,none⟩) hB u1)⟩
theorem set4_world (w:World) (b:Nat) (t:TypeId) (x0 x1 x2 x3:Value) (u0 u1 u2 u3:Value) (h:w.heap[b]?=some (.cells #[x0,x1,x2,x3] t (0,0))) :
  ∃ W3,W3=((((w.setCell ⟨b,0,none⟩ u0).setCell ⟨b,1,none⟩ u1).setCell ⟨b,2,none⟩ u2).setCell ⟨b,3,none⟩ u3)∧(∀ k,k≠b→W3.heap[k]?=w.heap[k]?)∧W3.heap[b]?=some (.cells #[u0,u1,u2,u3] t (0,0))∧∀ B a,Below B a w→B≤b→Below B a W3 :=
 ⟨_,rfl,fun k hk=>(Below.heap_setCell _ _ _ k hk).trans ((Below.heap_setCell _ _ _ k hk).trans ((Below.heap_setCell _ _ _ k hk).trans (Below.heap_setCell _ _ _ k hk))),(ShTB.set_heap' (i:=3) u3 (ShTB.set_heap' (i:=2) u2 (ShTB.set_heap' (i:=1) u1 (ShTB.set_heap' (i:=0) u0 h)))).trans (by simp),fun B a hb hB=>((((hb.setCell (p:=⟨b,0,none⟩) hB u0).setCell (p:=⟨b,1,none⟩) hB u1).setCell (p:=⟨b,2,none⟩) hB u2).setCell (p:=⟨b,3,none⟩) hB u3)⟩
theorem set5_world (w:World) (b:Nat) (t:TypeId) (x0 x1 x2 x3 x4:Value) (u0 u1 u2 u3 u4:Value) (h:w.heap[b]?=some (.cells #[x0,x1,x2,x3,x4] t (0,0))) :
  ∃ W3,W3=(((((w.setCell ⟨b,0,none⟩ u0).setCell ⟨b,1,none⟩ u1).setCell ⟨b,2,none⟩ u2).setCell ⟨b,3,none⟩ u3).setCell ⟨b,4,none⟩ u4)∧(∀ k,k≠b→W3.heap[k]?=w.heap[k]?)∧W3.heap[b]?=some (.cells #[u0,u1,u2,u3,u4] t (0,0))∧∀ B a,Below B a w→B≤b→Below B a W3 :=
 ⟨_,rfl,fun k hk=>(Below.heap_setCell _ _ _ k hk).trans ((Below.heap_setCell _ _ _ k hk).trans ((Below.heap_setCell _ _ _ k hk).trans ((Below.heap_setCell _ _ _ k hk).trans (Below.heap_setCell _ _ _ k hk)))),(ShTB.set_heap' (i:=4) u4 (ShTB.set_heap' (i:=3) u3 (ShTB.set_heap' (i:=2) u2 (ShTB.set_heap' (i:=1) u1 (ShTB.set_heap' (i:=0) u0 h))))).trans (by simp),fun B a hb hB=>(((((hb.setCell (p:=⟨b,0,none⟩) hB u0).setCell (p:=⟨b,1,none⟩) hB u1).setCell (p:=⟨b,2,none⟩) hB u2).setCell (p:=⟨b,3,none⟩) hB u3).setCell (p:=⟨b,4,none⟩) hB u4)⟩
theorem set7_world (w:World) (b:Nat) (t:TypeId) (x0 x1 x2 x3 x4 x5 x6:Value) (u0 u1 u2 u3 u4 u5 u6:Value) (h:w.heap[b]?=some (.cells #[x0,x1,x2,x3,x4,x5,x6] t (0,0))) :
  ∃ W3,W3=(((((((w.setCell ⟨b,0,none⟩ u0).setCell ⟨b,1,none⟩ u1).setCell ⟨b,2,none⟩ u2).setCell ⟨b,3,none⟩ u3).setCell ⟨b,4,none⟩ u4).setCell ⟨b,5,none⟩ u5).setCell ⟨b,6,none⟩ u6)∧(∀ k,k≠b→W3.heap[k]?=w.heap[k]?)∧W3.heap[b]?=some (.cells #[u0,u1,u2,u3,u4,u5,u6] t (0,0))∧∀ B a,Below B a w→B≤b→Below B a W3 :=
 ⟨_,rfl,fun k hk=>(Below.heap_setCell _ _ _ k hk).trans ((Below.heap_setCell _ _ _ k hk).trans ((Below.heap_setCell _ _ _ k hk).trans ((Below.heap_setCell _ _ _ k hk).trans ((Below.heap_setCell _ _ _ k hk).trans ((Below.heap_setCell _ _ _ k hk).trans (Below.heap_setCell _ _ _ k hk)))))),(ShTB.set_heap' (i:=6) u6 (ShTB.set_heap' (i:=5) u5 (ShTB.set_heap' (i:=4) u4 (ShTB.set_heap' (i:=3) u3 (ShTB.set_heap' (i:=2) u2 (ShTB.set_heap' (i:=1) u1 (ShTB.set_heap' (i:=0) u0 h))))))).trans (by simp),fun B a hb hB=>(((((((hb.setCell (p:=⟨b,0,none⟩) hB u0).setCell (p:=⟨b,1,none⟩) hB u1).setCell (p:=⟨b,2,none⟩) hB u2).setCell (p:=⟨b,3,none⟩) hB u3).setCell (p:=⟨b,4,none⟩) hB u4).setCell (p:=⟨b,5,none⟩) hB u5).setCell (p:=⟨b,6,none⟩) hB u6)⟩
theorem set4_worldD (w:World) (b:Nat) (t:TypeId) (x0 x1 x2 x3:Value) (u0 u1 u2 u3:Value) (h:w.heap[b]?=some (.cells #[x0,x1,x2,x3] t (0,0))) :
  ∃ W3,W3=((((w.setCell ⟨b,0,none⟩ u0).setCell ⟨b,1,none⟩ u1).setCell ⟨b,2,none⟩ u2).setCell ⟨b,3,none⟩ u3).drew∧(∀ k,k≠b→W3.heap[k]?=w.heap[k]?)∧W3.heap[b]?=some (.cells #[u0,u1,u2,u3] t (0,0))∧∀ B a,Below B a w→B≤b→Below B a W3:=by
 obtain ⟨W3,h1,h2,h3,h4⟩:=set4_world w b t x0 x1 x2 x3 u0 u1 u2 u3 h
 exact ⟨W3.drew,by rw [h1],h2,h3,fun B a hb hB=>(h4 B a hb hB).drew⟩
end Go.Proofs.YtbebficgcemkoaaGreatDoor.RdB
namespace Go.Proofs.YtbebficgcemkoaaGreatDoor.RcP
open Go.RowKit Go.Lib TyM TyP ShM ShP ShB IntO SetP LxM LxJ LxY RwO RdM RdN RdV RdB Aft
open LxP (LinesAt StrsAt)

structure Kept (E:List Nat) (w w' : World):Prop where
 os:w'.os=w.os
 tape:w'.tape=w.tape
 output:w'.output=w.output
 size:w.heap.size≤w'.heap.size
 block:∀ k,k < w.heap.size→k∉E→w'.heap[k]?=w.heap[k]?
theorem Kept.refl (E:List Nat) (w:World):Kept E w w:=⟨rfl,rfl,rfl,Nat.le_refl _,fun _ _ _=>rfl⟩
theorem Kept.trans {E:List Nat} {a b c:World} (h:Kept E a b) (k:Kept E b c):Kept E a c :=
 ⟨k.os.trans h.os,k.tape.trans h.tape,k.output.trans h.output,Nat.le_trans h.size k.size,fun i hi hE=>(k.block i (Nat.lt_of_lt_of_le hi h.size) hE).trans (h.block i hi hE)⟩
theorem Kept.mono {E F:List Nat} {w w' : World} (h:Kept E w w') (hE:∀ x∈E,x∈F):Kept F w w':=⟨h.os,h.tape,h.output,h.size,fun k hk hF=>h.block k hk fun hx=>hF (hE k hx)⟩
theorem kept_below {E:List Nat} {w w' : World} (h:Below w.heap.size w w'):Kept E w w':=⟨h.os,h.tape,h.output,h.size,fun k hk _=>h.block k hk⟩
theorem Kept.go {E:List Nat} {a b c:World} (h:Kept E a b) (k:Below b.heap.size b c):Kept E a c:=h.trans (kept_below k)
theorem Kept.alloc {E:List Nat} {a w:World} (h:Kept E a w) (o:Obj):Kept E a (w.alloc o):=h.go (alloc_below w o)
theorem Kept.drew {E:List Nat} {a w:World} (h:Kept E a w):Kept E a w.drew:=⟨h.os,h.tape,h.output,h.size,h.block⟩
theorem Kept.set {E:List Nat} {a w:World} (h:Kept E a w) {b i:Nat} (hb:b∈E∨a.heap.size≤b) (u:Value):Kept E a (w.setCell ⟨b,i,none⟩ u) :=
 ⟨h.os,h.tape,h.output,by simpa [World.setCell] using h.size,fun k hk hE=>(Below.heap_setCell _ _ _ k (fun e=>by
  subst e
  rcases hb with hb | hb
  ·exact hE hb
  ·exact absurd hk (by simpa using hb))).trans (h.block k hk hE)⟩
theorem Kept.new {E:List Nat} {n:Nat} {a w:World} (h:Kept (n :: E) a w) (hn:a.heap.size≤n):Kept E a w :=
 ⟨h.os,h.tape,h.output,h.size,fun k hk hE=>h.block k hk fun hx=>by
  rcases List.mem_cons.1 hx with rfl | hx
  ·omega
  ·exact hE hx⟩
theorem Kept.below {E:List Nat} {B:Nat} {w w' : World} (h:Kept E w w') (hB:B≤w.heap.size) (hE:∀ x∈E,B≤x):Below B w w' :=
 ⟨h.os,h.tape,h.output,h.size,fun k hk=>h.block k (by omega) fun hx=>by have:=hE k hx;omega⟩
theorem Kept.heap {E:List Nat} {w w' : World} (h:Kept E w w') {b:Nat} {o:Obj} (hb:w.heap[b]?=some o) (hE:b∉E):w'.heap[b]?=some o:=(h.block b (Array.getElem?_eq_some_iff.1 hb).1 hE).trans hb
theorem Kept.cell {E:List Nat} {w w' : World} (h:Kept E w w') {a:Addr} {v:Value} (hv:w.cell? a=some v) (hE:a.block∉E):w'.cell? a=some v:=by
 have hlt:=World.block_lt_of_cell? w a hv
 exact (World.cell?_of_block (w:=w) (h.block a.block hlt hE)).trans hv
theorem Kept.grown {b:Nat} {w w' : World} (h:Kept [b] w w'):w.grownBy w' (some b):=⟨h.os,h.tape,h.output,h.size,fun k hk hne=>h.block k hk fun hx=>by
 rw [List.mem_singleton] at hx
 exact hne (by rw [hx])⟩
theorem kept_grown {b:Nat} {w w' : World} (h:w.grownBy w' (some b)):Kept [b] w w':=⟨h.os,h.tape,h.output,h.size,fun k hk hne=>h.block k hk fun hx=>hne (by
 cases hx;simp)⟩

def Fine (l:Ln):Prop:=l.length≤64∧∀ x∈l,un x≠[]∧x.size≤9223372036854775807
def FineL (L:List Ln):Prop:=L.length≤20000∧∀ l∈L,1≤l.length∧Fine l
theorem Fine.tail {x:ByteArray} {l:Ln} (h:Fine (x :: l)):Fine l:=⟨by have:=h.1;simp at this;omega,fun y hy=>h.2 y (List.mem_cons_of_mem _ hy)⟩
theorem Fine.drop {l:Ln} (h:Fine l) (k:Nat):Fine (l.drop k):=⟨by rw [List.length_drop];have:=h.1;omega,fun y hy=>h.2 y (List.mem_of_mem_drop hy)⟩
theorem FineL.tail {l:Ln} {L:List Ln} (h:FineL (l :: L)):FineL L:=⟨by have:=h.1;simp at this;omega,fun y hy=>h.2 y (List.mem_cons_of_mem _ hy)⟩
theorem FineL.drop {L:List Ln} (h:FineL L) (k:Nat):FineL (L.drop k):=⟨by rw [List.length_drop];have:=h.1;omega,fun y hy=>h.2 y (List.mem_of_mem_drop hy)⟩
theorem FineL.head {l:Ln} {L:List Ln} (h:FineL (l :: L)):1≤l.length∧Fine l:=h.2 l (List.mem_cons_self ..)
theorem fine_nil:Fine []:=⟨by simp,by simp⟩

structure Rdr (W:World) (b:Nat) (L:List Ln) (ws:Ln) (reg:Int) (tv:Value) (w:World):Prop where
 be:Below W.heap.size W w
 lo:W.heap.size≤b
 cs:∃ lv wv,w.heap[b]?=some (.cells #[lv,wv,.int .i64 reg,tv] 114 (0,0))∧LinesAt W lv L∧StrsAt W wv ws
 fl:FineL L
 fw:Fine ws
theorem Rdr.kept {W:World} {b:Nat} {L:List Ln} {ws:Ln} {reg:Int} {tv:Value} {w w' : World} {E:List Nat} (h:Rdr W b L ws reg tv w) (hk:Kept E w w') (hE:b∉E) (hB:∀ x∈E,W.heap.size≤x):Rdr W b L ws reg tv w':=by
 obtain ⟨lv,wv,h1,h2,h3⟩:=h.cs
 exact ⟨h.be.trans (hk.below h.be.size hB),h.lo,⟨lv,wv,hk.heap h1 hE,h2,h3⟩,h.fl,h.fw⟩
theorem Rdr.on {W:World} {b:Nat} {L:List Ln} {ws:Ln} {reg:Int} {tv:Value} {w w' : World} (h:Rdr W b L ws reg tv w) (hk:Below w.heap.size w w'):Rdr W b L ws reg tv w' :=
 h.kept (E:=[]) (kept_below hk) (by simp) (by simp)
theorem Rdr.lt {W:World} {b:Nat} {L:List Ln} {ws:Ln} {reg:Int} {tv:Value} {w:World} (h:Rdr W b L ws reg tv w):b < w.heap.size:=by
 obtain ⟨lv,wv,h1,_⟩:=h.cs
 exact (Array.getElem?_eq_some_iff.1 h1).1
theorem Rdr.old {W:World} {b:Nat} {L:List Ln} {ws:Ln} {reg:Int} {tv:Value} {w w' : World} (h:Rdr W b L ws reg tv w) (hk:Kept [b] w w'):Below W.heap.size W w' :=
 h.be.trans (hk.below h.be.size (by have:=h.lo;simpa using this))
theorem Rdr.facts {W:World} {b:Nat} {L:List Ln} {ws:Ln} {reg:Int} {tv:Value} {w:World} (h:Rdr W b L ws reg tv w) :
  ∃ la lc wa wc,w.cell? ⟨b,0,none⟩=some (.slice la L.length lc)∧w.cell? ⟨b,1,none⟩=some (.slice wa ws.length wc)∧w.cell? ⟨b,2,none⟩=some (.int .i64 reg)∧w.cell? ⟨b,3,none⟩=some tv∧(∀ i,w.frozen? ⟨b,i,none⟩=false) ∧
   LinesAt W (.slice la L.length lc) L∧StrsAt W (.slice wa ws.length wc) ws∧b < w.heap.size∧L.length≤20000∧ws.length≤64:=by
 obtain ⟨lv,wv,h1,h2,h3⟩:=h.cs
 obtain ⟨la,lc,rfl,_⟩:=h2.slice
 obtain ⟨wa,wc,rfl,_⟩:=h3.slice
 exact ⟨la,lc,wa,wc,cells_of h1 0 _ rfl,cells_of h1 1 _ rfl,cells_of h1 2 _ rfl,cells_of h1 3 _ rfl,(ShTB.cells_heap h1).2,h2,h3,h.lt,h.fl.1,h.fw.1⟩
theorem Rdr.words {W:World} {b:Nat} {L:List Ln} {ws ws' : Ln} {reg:Int} {tv:Value} {w:World} (h:Rdr W b L ws reg tv w) {v:Value} (hv:StrsAt W v ws') (hf:Fine ws'):Rdr W b L ws' reg tv (w.setCell ⟨b,1,none⟩ v):=by
 obtain ⟨lv,wv,h1,h2,h3⟩:=h.cs
 exact ⟨h.be.setCell (p:=⟨b,1,none⟩) h.lo v,h.lo,⟨lv,v,(ShTB.set_heap' (i:=1) v h1).trans (by simp),h2,hv⟩,h.fl,hf⟩
theorem Rdr.lines {W:World} {b:Nat} {L L' : List Ln} {ws:Ln} {reg:Int} {tv:Value} {w:World} (h:Rdr W b L ws reg tv w) {v:Value} (hv:LinesAt W v L') (hf:FineL L'):Rdr W b L' ws reg tv (w.setCell ⟨b,0,none⟩ v):=by
 obtain ⟨lv,wv,h1,h2,h3⟩:=h.cs
 exact ⟨h.be.setCell (p:=⟨b,0,none⟩) h.lo v,h.lo,⟨v,wv,(ShTB.set_heap' (i:=0) v h1).trans (by simp),hv,h3⟩,hf,h.fw⟩
theorem Rdr.regs {W:World} {b:Nat} {L:List Ln} {ws:Ln} {reg:Int} {tv:Value} {w:World} (h:Rdr W b L ws reg tv w) (q:Int):Rdr W b L ws q tv (w.setCell ⟨b,2,none⟩ (.int .i64 q)):=by
 obtain ⟨lv,wv,h1,h2,h3⟩:=h.cs
 exact ⟨h.be.setCell (p:=⟨b,2,none⟩) h.lo _,h.lo,⟨lv,wv,(ShTB.set_heap' (i:=2) _ h1).trans (by simp),h2,h3⟩,h.fl,h.fw⟩
theorem Rdr.types {W:World} {b:Nat} {L:List Ln} {ws:Ln} {reg:Int} {tv:Value} {w:World} (h:Rdr W b L ws reg tv w) (v:Value):Rdr W b L ws reg v (w.setCell ⟨b,3,none⟩ v):=by
 obtain ⟨lv,wv,h1,h2,h3⟩:=h.cs
 exact ⟨h.be.setCell (p:=⟨b,3,none⟩) h.lo _,h.lo,⟨lv,wv,(ShTB.set_heap' (i:=3) _ h1).trans (by simp),h2,h3⟩,h.fl,h.fw⟩
theorem Rdr.draw {W:World} {b:Nat} {L:List Ln} {ws:Ln} {reg:Int} {tv:Value} {w:World} (h:Rdr W b L ws reg tv w):Rdr W b L ws reg tv w.drew:=⟨h.be.drew,h.lo,h.cs,h.fl,h.fw⟩

def CH:List PanicEntry:=[{ v:=.iface 22 (.int .i64 70),recovered:=false }]
def Out (b:Nat) (w:World) (e:Ending) (w' : World):Prop:=e=.panicked CH∧Kept [b] w w'
def Goes (W:World) (b:Nat) (L:List Ln) (ws:Ln) (reg:Int) (tv v:Value) (w:World) (e:Ending) (w' : World):Prop :=
 e=.returned v∧Rdr W b L ws reg tv w'∧Kept [b] w w'

theorem must_yes (w:World):Calls Tryz.prog 76 #[.bool true] w fun e w'=>e=.returned (.tuple #[])∧w=w':=by
 go_enter Tryz.func76,Tryz.ntmps76
 go_wp2
 go_end0
 exact ⟨rfl,rfl⟩
theorem must_no (w:World):Calls Tryz.prog 76 #[.bool false] w fun e w'=>e=.panicked CH∧w=w':=by
 go_enter Tryz.func76,Tryz.ntmps76
 go_wp2
 exact ⟨rfl,rfl,rfl⟩
end Go.Proofs.YtbebficgcemkoaaGreatDoor.RcP
namespace Go.Proofs.YtbebficgcemkoaaGreatDoor.RcA
open Go.RowKit Go.Lib TyM TyP ShM ShP ShB IntO SetP LxM LxJ LxY RwO RdM RdN RdV RdB Aft RcP
open LxP (LinesAt StrsAt)

variable {W:World} {b:Nat} {L:List Ln} {ws:Ln} {reg:Int} {tv:Value} {w:World}

theorem over_yes (h:Rdr W b L [] reg tv w):Calls Tryz.prog 74 #[.pointer (some ⟨b,0,none⟩)] w (Goes W b L [] reg tv (.tuple #[]) w):=by
 obtain ⟨la,lc,wa,wc,c0,c1,c2,c3,hfz,hl,hw,hb,hL,hn⟩:=h.facts
 have HR:=hid h
 clear h hl hw c0 c2 c3
 go_enter Tryz.func74,Tryz.ntmps74
 go_wp2_with fail
 refine (must_yes w).mono ?_
 rintro e w1 ⟨rfl,rfl⟩
 go_wp2
 go_end0
 exact ⟨rfl,HR.out,Kept.refl _ _⟩
theorem over_no (h:Rdr W b L ws reg tv w) (h0:ws≠[]):Calls Tryz.prog 74 #[.pointer (some ⟨b,0,none⟩)] w (Out b w):=by
 obtain ⟨la,lc,wa,wc,c0,c1,c2,c3,hfz,hl,hw,hb,hL,hn⟩:=h.facts
 have hne:((ws.length:Int) == 0)=false:=by
  have:=List.length_pos_iff.2 h0
  simp;omega
 clear h hl hw c0 c2 c3 h0
 generalize ws.length=n at *
 go_enter Tryz.func74,Tryz.ntmps74
 go_wp2_with fail
 refine (must_no w).mono ?_
 rintro e w1 ⟨rfl,rfl⟩
 go_wp2
 exact ⟨rfl,rfl,Kept.refl _ _⟩

theorem word_no (h:Rdr W b L [] reg tv w):Calls Tryz.prog 131 #[.pointer (some ⟨b,0,none⟩)] w (Out b w):=by
 obtain ⟨la,lc,wa,wc,c0,c1,c2,c3,hfz,hl,hw,hb,hL,hn⟩:=h.facts
 clear h hl hw c0 c2 c3
 go_enter Tryz.func131,Tryz.ntmps131
 go_wp2_with fail
 refine (must_no w).mono ?_
 rintro e w1 ⟨rfl,rfl⟩
 go_wp2
 exact ⟨rfl,rfl,Kept.refl _ _⟩
theorem word_yes {x:ByteArray} (h:Rdr W b L (x :: ws) reg tv w):Calls Tryz.prog 131 #[.pointer (some ⟨b,0,none⟩)] w (Goes W b L ws reg tv (.string x) w):=by
 obtain ⟨la,lc,wa,wc,c0,c1,c2,c3,hfz,hl,hw,hb,hL,hn⟩:=h.facts
 obtain ⟨v1,hv1,hr1⟩:=strs_drop hw (k:=1) (by simp)
 have hv1:StrsAt W v1 ws:=hv1
 obtain ⟨a1,k1,rfl,_⟩:=hv1.slice
 obtain ⟨wb,off,rfl,d0⟩:=word_at hw 0 (by simp)
 rw [Nat.add_zero] at d0
 have d0:w.cell? ⟨wb,off,none⟩=some (.string x):=(h.be.cell (p:=⟨wb,off,none⟩) (World.block_lt_of_cell? W _ d0)).trans d0
 have hr1:∀ wx:World,(Instr.slice 74 (.slice (some ⟨wb,off,none⟩) (x :: ws).length wc) (some (.int .i64 1)) none none).run Tryz.prog wx=.ok (.slice a1 ws.length k1) wx:=hr1
 have hf1:=hfz 1
 have HS:=hid (h.words hv1 h.fw.tail)
 have HK:Hid (Kept [b] w (w.setCell ⟨b,1,none⟩ (.slice a1 ws.length k1))):=(Kept.refl [b] w).set (.inl (by simp)) _
 have h0:(0:Int) < ((x :: ws).length:Int):=by simp only [List.length_cons];omega
 have h0n:0 < (x :: ws).length:=by simp
 clear h hl hw c0 c2 c3 hfz hv1
 generalize (x :: ws).length=n at *
 go_enter Tryz.func131,Tryz.ntmps131
 go_wp2_with fail
 refine (must_yes w).mono ?_
 rintro e w1 ⟨rfl,rfl⟩
 go_wp2
 go_ret
 exact ⟨rfl,HS.out,HK.out⟩

theorem mark_no {c:UInt8} (h:Rdr W b L ws reg tv w) (hm:markC c ws=none):Calls Tryz.prog 132 #[.pointer (some ⟨b,0,none⟩),.int .u8 (c.toNat:Int)] w (Out b w):=by
 cases ws with
 | nil =>
  have HC:=hid (word_no h)
  unfold Out at HC
  clear hm h
  go_enter Tryz.func132,Tryz.ntmps132
  go_wp2_with fail
  refine HC.out.mono ?_
  rintro e w1 ⟨rfl,hk⟩
  go_wp2
  exact ⟨rfl,rfl,hk⟩
 | cons x ws =>
  rw [markC_cons] at hm
  have hq:(mkN x c).2≠0:=fun e=>by rw [if_pos e] at hm;cases hm
  have HC:=hid (word_yes h)
  have HM:=hid (fun wx=>mark_calls x (h.fw.2 x (by simp)).2 c wx)
  unfold Goes at HC
  unfold MkR at HM
  clear hm h
  generalize (mkN x c).1=q at *
  generalize (mkN x c).2=z at *
  have hz:(z == 0)=false:=by simpa using hq
  clear hq
  go_enter Tryz.func132,Tryz.ntmps132
  go_wp2_with fail
  refine HC.out.mono ?_
  rintro e w1 ⟨rfl,hr1,hk⟩
  have HK:=hid hk
  clear hr1 hk HC
  go_wp2_with fail
  refine (HM.out _).mono ?_
  rintro e w2 ⟨rfl,hb2⟩
  have HK2:=hid (HK.out.go hb2)
  clear HM hb2 HK
  go_wp2_with fail
  refine (must_no w2).mono ?_
  rintro e w3 ⟨rfl,rfl⟩
  go_wp2
  exact ⟨rfl,rfl,HK2.out⟩
theorem mark_yes {c:UInt8} {n:Int} {ws' : Ln} (h:Rdr W b L ws reg tv w) (hm:markC c ws=some (n,ws')):Calls Tryz.prog 132 #[.pointer (some ⟨b,0,none⟩),.int .u8 (c.toNat:Int)] w (Goes W b L ws' reg tv (.int .i64 n) w):=by
 cases ws with
 | nil=>cases hm
 | cons x ws =>
  rw [markC_cons] at hm
  have hq:(mkN x c).2=0:=by
   by_cases hq:(mkN x c).2=0
   ·exact hq
   ·rw [if_neg hq] at hm;cases hm
  rw [if_pos hq] at hm
  cases hm
  have HC:=hid (word_yes h)
  have HM:=hid (fun wx=>mark_calls x (h.fw.2 x (by simp)).2 c wx)
  unfold Goes at HC
  unfold MkR at HM
  rw [hq] at HM
  clear h hq
  generalize (mkN x c).1=q at *
  go_enter Tryz.func132,Tryz.ntmps132
  go_wp2_with fail
  refine HC.out.mono ?_
  rintro e w1 ⟨rfl,hr1,hk⟩
  have HK:=hid hk
  have HR:=hid hr1
  clear hr1 hk HC
  go_wp2_with fail
  refine (HM.out _).mono ?_
  rintro e w2 ⟨rfl,hb2⟩
  have HK2:=hid (HK.out.go hb2)
  have HR2:=hid (HR.out.on hb2)
  clear HM hb2 HK HR
  go_wp2_with fail
  refine (must_yes w2).mono ?_
  rintro e w3 ⟨rfl,rfl⟩
  go_wp2
  go_ret
  exact ⟨rfl,HR2.out,HK2.out⟩
end Go.Proofs.YtbebficgcemkoaaGreatDoor.RcA
namespace Go.Proofs.YtbebficgcemkoaaGreatDoor.RcB
open Go.RowKit Go.Lib TyM TyP ShM ShP ShB IntO SetP LxM LxJ LxY RwO RdM RdN RdV RdB Aft RcP RcA
open LxP (LinesAt StrsAt)

variable {W:World} {b:Nat} {L:List Ln} {ws:Ln} {reg:Int} {tv:Value} {w:World}

theorem small_no (h:Rdr W b L ws reg tv w) (hm:smallC ws=none):Calls Tryz.prog 134 #[.pointer (some ⟨b,0,none⟩)] w (Out b w):=by
 cases ws with
 | nil =>
  have HC:=hid (word_no h)
  unfold Out at HC
  clear hm h
  go_enter Tryz.func134,Tryz.ntmps134
  go_wp2_with fail
  refine HC.out.mono ?_
  rintro e w1 ⟨rfl,hk⟩
  go_wp2
  exact ⟨rfl,rfl,hk⟩
 | cons x ws =>
  rw [smallC_cons] at hm
  have hq:(NumG.sm (un x) 999).2≠0:=fun e=>by rw [if_pos e] at hm;cases hm
  have HC:=hid (word_yes h)
  have HM:=hid (fun wx=>NumG.small_calls x (h.fw.2 x (by simp)).2 999 wx)
  unfold Goes at HC
  unfold NumG.SmPost at HM
  rw [show x.data.toList=un x from rfl] at HM
  clear hm h
  generalize (NumG.sm (un x) 999).1=q at *
  generalize (NumG.sm (un x) 999).2=z at *
  have hz:(z == 0)=false:=by simpa using hq
  clear hq
  go_enter Tryz.func134,Tryz.ntmps134
  go_wp2_with fail
  refine HC.out.mono ?_
  rintro e w1 ⟨rfl,hr1,hk⟩
  have HK:=hid hk
  clear hr1 hk HC
  go_wp2_with fail
  refine (HM.out _).mono ?_
  rintro e w2 ⟨rfl,hb2⟩
  have HK2:=hid (HK.out.go hb2)
  clear HM hb2 HK
  go_wp2_with fail
  refine (must_no w2).mono ?_
  rintro e w3 ⟨rfl,rfl⟩
  go_wp2
  exact ⟨rfl,rfl,HK2.out⟩
theorem small_yes {n:Int} {ws' : Ln} (h:Rdr W b L ws reg tv w) (hm:smallC ws=some (n,ws')):Calls Tryz.prog 134 #[.pointer (some ⟨b,0,none⟩)] w (Goes W b L ws' reg tv (.int .i64 n) w):=by
 cases ws with
 | nil=>cases hm
 | cons x ws =>
  rw [smallC_cons] at hm
  have hq:(NumG.sm (un x) 999).2=0:=by
   by_cases hq:(NumG.sm (un x) 999).2=0
   ·exact hq
   ·rw [if_neg hq] at hm;cases hm
  rw [if_pos hq] at hm
  cases hm
  have HC:=hid (word_yes h)
  have HM:=hid (fun wx=>NumG.small_calls x (h.fw.2 x (by simp)).2 999 wx)
  unfold Goes at HC
  unfold NumG.SmPost at HM
  rw [show x.data.toList=un x from rfl,hq] at HM
  clear h hq
  generalize (NumG.sm (un x) 999).1=q at *
  go_enter Tryz.func134,Tryz.ntmps134
  go_wp2_with fail
  refine HC.out.mono ?_
  rintro e w1 ⟨rfl,hr1,hk⟩
  have HK:=hid hk
  have HR:=hid hr1
  clear hr1 hk HC
  go_wp2_with fail
  refine (HM.out _).mono ?_
  rintro e w2 ⟨rfl,hb2⟩
  have HK2:=hid (HK.out.go hb2)
  have HR2:=hid (HR.out.on hb2)
  clear HM hb2 HK HR
  go_wp2_with fail
  refine (must_yes w2).mono ?_
  rintro e w3 ⟨rfl,rfl⟩
  go_wp2
  go_ret
  exact ⟨rfl,HR2.out,HK2.out⟩

theorem sizeLn (w:World):(sizeOf (Tryz.prog.elem 44)).run Tryz.prog w=.ok 1 w:=by kernel_rfl
theorem lines_drop {w:World} {ao:Option Addr} {n cap:Nat} {l:List Ln} (h:LinesAt w (.slice ao n cap) l) {k:Nat} (hk:k≤l.length):∃ v,LinesAt w v (l.drop k)∧(∀ wx:World,(Instr.slice 44 (.slice ao n cap) (some (.int .i64 (k:Int))) none none).run Tryz.prog wx=.ok v wx):=by
 obtain ⟨r,rfl,h2,h3⟩:=h
 obtain ⟨v,hv,hr⟩:=list_drop (ts:=44) (by kernel_rfl) sizeLn h2 (k:=k) (by simpa using hk)
 exact ⟨v,⟨r.drop k,by simp,by simpa using hv,fun x hx=>h3 x (List.mem_of_mem_drop hx)⟩,hr⟩

theorem next_no (h:Rdr W b [] ws reg tv w):Calls Tryz.prog 130 #[.pointer (some ⟨b,0,none⟩)] w (Out b w):=by
 obtain ⟨la,lc,wa,wc,c0,c1,c2,c3,hfz,hl,hw,hb,hL,hn⟩:=h.facts
 clear h hl hw c1 c2 c3
 go_enter Tryz.func130,Tryz.ntmps130
 go_wp2_with fail
 refine (must_no w).mono ?_
 rintro e w1 ⟨rfl,rfl⟩
 go_wp2
 exact ⟨rfl,rfl,Kept.refl _ _⟩
theorem next_yes {l:Ln} (h:Rdr W b (l :: L) ws reg tv w):Calls Tryz.prog 130 #[.pointer (some ⟨b,0,none⟩)] w (Goes W b L l reg tv (.tuple #[]) w):=by
 obtain ⟨la,lc,wa,wc,c0,c1,c2,c3,hfz,hl,hw,hb,hL,hn⟩:=h.facts
 obtain ⟨v1,hv1,hr1⟩:=lines_drop hl (k:=1) (by simp)
 have hv1:LinesAt W v1 L:=hv1
 obtain ⟨a1,k1,rfl,_⟩:=hv1.slice
 obtain ⟨lb,off,pv,rfl,_,d0,hpv⟩:=hl.at 0 (by simp)
 have hpv:StrsAt W pv l:=hpv
 obtain ⟨pa,pc,rfl,_⟩:=hpv.slice
 rw [Nat.add_zero] at d0
 have hr1:∀ wx:World,(Instr.slice 44 (.slice (some ⟨lb,off,none⟩) (l :: L).length lc) (some (.int .i64 1)) none none).run Tryz.prog wx=.ok (.slice a1 L.length k1) wx:=hr1
 have HS:=hid ((h.words hpv h.fl.head.2).lines hv1 h.fl.tail).draw
 have HK:Hid (Kept [b] w ((w.setCell ⟨b,1,none⟩ (.slice pa l.length pc)).setCell ⟨b,0,none⟩ (.slice a1 L.length k1)).drew):=(((Kept.refl [b] w).set (.inl (by simp)) _).set (.inl (by simp)) _).drew
 have d0:w.cell? ⟨lb,off,none⟩=some (.slice pa l.length pc):=(h.be.cell (p:=⟨lb,off,none⟩) (World.block_lt_of_cell? W _ d0)).trans d0
 have h0:(0:Int) < ((l :: L).length:Int):=by simp only [List.length_cons];omega
 have h0n:0 < (l :: L).length:=by simp
 have hlb:lb≠b:=fun e=>by
  have h1:=World.block_lt_of_cell? W ⟨lb,off,none⟩ (by assumption)
  have:=h.lo
  simp at h1
  omega
 have hf0:=hfz 0
 have hf1:=hfz 1
 clear h hl hw c2 c3 hfz hv1 hpv
 generalize (l :: L).length=n at *
 go_enter Tryz.func130,Tryz.ntmps130
 go_wp2_with fail
 refine (must_yes w).mono ?_
 rintro e w1 ⟨rfl,rfl⟩
 go_wp2_with fail
 go_region
 go_end0
 exact ⟨rfl,HS.out,HK.out⟩
end Go.Proofs.YtbebficgcemkoaaGreatDoor.RcB
namespace Go.Proofs.YtbebficgcemkoaaGreatDoor.RcC
open Go.RowKit Go.Lib TyM TyP ShM ShP ShB IntO SetP LxM LxJ LxY RwO RdM RdN RdV RdB Aft RcP RcA RcB
open LxP (LinesAt StrsAt)

variable {W:World} {b:Nat} {L:List Ln} {ws:Ln} {reg:Int} {tv:Value} {w:World}

theorem ne_words {x y:ByteArray} (h:un x≠un y):(x.toList == y.toList)=false:=by
 rw [Lib.toList_data,Lib.toList_data]
 exact beq_eq_false_iff_ne.2 h
theorem eq_words {x y:ByteArray} (h:un x=un y):(x.toList == y.toList)=true:=by
 rw [Lib.toList_data,Lib.toList_data]
 exact beq_iff_eq.2 h
theorem first_word {l:Ln} (h:Rdr W b (l :: L) ws reg tv w):∃ lb off lc pb off2 pc x r,l=x :: r∧w.cell? ⟨b,0,none⟩=some (.slice (some ⟨lb,off,none⟩) (L.length+1) lc)∧w.cell? ⟨lb,off,none⟩=some (.slice (some ⟨pb,off2,none⟩) (r.length+1) pc)∧w.cell? ⟨pb,off2,none⟩=some (.string x):=by
 obtain ⟨la,lc,wa,wc,c0,c1,c2,c3,hfz,hl,hw,hb,hL,hn⟩:=h.facts
 obtain ⟨lb,off,pv,rfl,_,d0,hpv⟩:=hl.at 0 (by simp)
 have hpv:StrsAt W pv l:=hpv
 rw [Nat.add_zero] at d0
 cases l with
 | nil=>have:=h.fl.head.1;simp at this
 | cons x r =>
  obtain ⟨pa,pc,rfl,_⟩:=hpv.slice
  obtain ⟨pb,off2,rfl,_,d1⟩:=hpv.at 0 (by simp)
  rw [Nat.add_zero] at d1
  exact ⟨lb,off,lc,pb,off2,pc,x,r,rfl,c0,(h.be.cell (p:=⟨lb,off,none⟩) (World.block_lt_of_cell? W _ d0)).trans d0,(h.be.cell (p:=⟨pb,off2,none⟩) (World.block_lt_of_cell? W _ d1)).trans d1⟩
theorem begins_off (wd:ByteArray) (h:Rdr W b L ws reg tv w) (hw:∀ l M,L=l :: M→w0 l≠un wd):Calls Tryz.prog 72 #[.pointer (some ⟨b,0,none⟩),.string wd] w (Goes W b L ws reg tv (.bool false) w):=by
 have HR:=hid h
 cases L with
 | nil =>
  obtain ⟨la,lc,wa,wc,c0,c1,c2,c3,hfz,hl,hw,hb,hL,hn⟩:=h.facts
  clear h hl hw c1 c2 c3
  go_enter Tryz.func72,Tryz.ntmps72
  go_wp2
  go_ret
  exact ⟨rfl,HR.out,Kept.refl _ _⟩
 | cons l L =>
  obtain ⟨lb,off,lc,pb,off2,pc,x,r,rfl,c0,d0,d1⟩:=first_word h
  have hne:(x.toList == wd.toList)=false:=ne_words (hw _ _ rfl)
  have hl:L.length≤20000:=by have:=h.fl.1;simp at this;omega
  have hr:r.length≤64:=by have:=h.fl.head.2.1;simp at this;omega
  clear h hw
  generalize hn1:L.length+1=n1 at *
  generalize hn2:r.length+1=n2 at *
  have h1:((n1:Int) == 0)=false:=by simp;omega
  have h2:0 < n1:=by omega
  have h3:0 < n2:=by omega
  have h4:(0:Int) < n1:=by omega
  have h5:(0:Int) < n2:=by omega
  clear hn1 hn2
  go_enter Tryz.func72,Tryz.ntmps72
  go_wp2
  go_ret
  exact ⟨rfl,HR.out,Kept.refl _ _⟩
theorem begins_on (wd:ByteArray) {l:Ln} (h:Rdr W b (l :: L) ws reg tv w) (hw:w0 l=un wd):Calls Tryz.prog 72 #[.pointer (some ⟨b,0,none⟩),.string wd] w (Goes W b L (l.drop 1) reg tv (.bool true) w):=by
 obtain ⟨lb,off,lc,pb,off2,pc,x,r,rfl,c0,d0,d1⟩:=first_word h
 have hne:(x.toList == wd.toList)=true:=eq_words hw
 have hl:L.length≤20000:=by have:=h.fl.1;simp at this;omega
 have hr:r.length≤64:=by have:=h.fl.head.2.1;simp at this;omega
 have HN:=hid (next_yes h)
 unfold Goes at HN
 clear h hw
 rw [show (x :: r).drop 1=r from rfl]
 generalize hn1:L.length+1=n1 at *
 generalize hn2:r.length+1=n2 at *
 have h1:((n1:Int) == 0)=false:=by simp;omega
 have h2:0 < n1:=by omega
 have h3:0 < n2:=by omega
 have h4:(0:Int) < n1:=by omega
 have h5:(0:Int) < n2:=by omega
 clear hn1 hn2
 go_enter Tryz.func72,Tryz.ntmps72
 go_wp2_with fail
 refine HN.out.mono ?_
 rintro e w1 ⟨rfl,hr1,hk⟩
 have HW:=hid (word_yes hr1)
 unfold Goes at HW
 have HK:=hid hk
 clear HN hk hr1
 go_wp2_with fail
 refine HW.out.mono ?_
 rintro e w2 ⟨rfl,hr2,hk2⟩
 have HR:=hid hr2
 have HK2:=hid (HK.out.trans hk2)
 clear HK HW hk2 hr2
 go_wp2
 go_ret
 exact ⟨rfl,HR.out,HK2.out⟩
end Go.Proofs.YtbebficgcemkoaaGreatDoor.RcC
namespace Go.Proofs.YtbebficgcemkoaaGreatDoor.RcD
open Go.RowKit Go.Lib TyM TyP ShM ShP ShB IntO SetP LxM LxJ LxY RwO RdM RdN RdV RdB Aft RcP RcA RcB RcC
open LxP (LinesAt StrsAt)

variable {W:World} {b:Nat} {L:List Ln} {ws:Ln} {reg:Int} {tv:Value} {w:World}

theorem Rdr_typed (h:Rdr W b L ws reg tv w):∀ g,some b=some g→∃ cs fr,w.heap[g]?=some (.cells cs 114 fr):=fun g hg=>by
 cases hg
 obtain ⟨lv,wv,h1,_⟩:=h.cs
 exact ⟨_,_,h1⟩
theorem not_reader (h:Rdr W b L ws reg tv w) {B n s:Nat} {e:TypeId} {v:Value} {xs:List Value} (ho:w.ownsRow B e s v n xs) (hef:e≠114):v.ownBlock≠some b:=fun hv=>by
 obtain ⟨cs,fr,h1⟩:=own_typed ho b hv
 obtain ⟨lv,wv,h2,_⟩:=h.cs
 rw [h2] at h1
 simp at h1
 exact hef h1.2.1.symm
theorem Rdr_grown {w' : World} (h:Rdr W b L ws reg tv w) {B n s:Nat} {e:TypeId} {v:Value} {xs:List Value} (ho:w.ownsRow B e s v n xs) (hB:W.heap.size≤B) (hef:e≠114) (hg:w.grownBy w' v.ownBlock):Rdr W b L ws reg tv w':=by
 have hne:=not_reader h ho hef
 cases hv:v.ownBlock with
 | none =>
  rw [hv] at hg
  exact h.on ⟨hg.os,hg.tape,hg.output,hg.size,fun k hk=>hg.block k hk (by simp)⟩
 | some g =>
  rw [hv] at hg hne
  have hlo:=(ho.lt g hv).1
  exact h.kept (E:=[g]) (kept_grown hg) (fun hx=>hne (by rw [List.mem_singleton.1 hx])) (by simp;omega)
theorem Kept_grown {E:List Nat} {a w w' : World} (h:Kept E a w) {B n s:Nat} {e:TypeId} {v:Value} {xs:List Value} (ho:w.ownsRow B e s v n xs) (hB:a.heap.size≤B) (hg:w.grownBy w' v.ownBlock):Kept E a w' :=
 ⟨hg.os.trans h.os,hg.tape.trans h.tape,hg.output.trans h.output,Nat.le_trans h.size hg.size,fun k hk hE=>(hg.block k (Nat.lt_of_lt_of_le hk h.size) (fun e=>by
  have:=(ho.lt k e.symm).1
  omega)).trans (h.block k hk hE)⟩
theorem owns_go {w' : World} (h:Rdr W b L ws reg tv w) {B n s:Nat} {e:TypeId} {v:Value} {xs:List Value} (ho:w.ownsRow B e s v n xs) (hef:e≠114) (hk:Kept [b] w w'):w'.ownsRow B e s v n xs :=
 owns_other ho hk.grown (Rdr_typed h) hef

def PartsO (W:World) (b:Nat) (L:List Ln) (reg:Int) (tv:Value) (r:List Int) (w:World) (e:Ending) (w' : World):Prop :=
 ∃ u,e=.returned u∧w'.ownsRow w.heap.size 3 1 u r.length (intVals r)∧Rdr W b L [] reg tv w'∧Kept [b] w w'
theorem parts_yes {r:List Int} (h:Rdr W b L ws reg tv w) (hm:marksO 116 ws=some r):Calls Tryz.prog 133 #[.pointer (some ⟨b,0,none⟩)] w (PartsO W b L reg tv r w):=by
 have HM:=hid hm
 have hn:=h.fw.1
 have hWb:=h.be.size
 have HH:=hid h
 clear h hm
 go_enter Tryz.func133,Tryz.ntmps133
 go_wp2_with fail
 go_loopg [3] ws.length (fun gk u wr=>∃ (k:Nat) (xs ys:List Int),k+gk=ws.length∧r=xs++ys∧xs.length=k∧marksO 116 (ws.drop k)=some ys∧wr.ownsRow w.heap.size 3 1 u xs.length (intVals xs)∧Rdr W b L (ws.drop k) reg tv wr∧Kept [b] w wr)
 case atStart=>exact ⟨0,[],r,by omega,rfl,rfl,HM.out,World.ownsRow_nil _ _ _ _,HH.out,Kept.refl _ _⟩
 case round =>
  obtain ⟨k,xs,ys,hk,hr,hxk,hm,hown,hrd,hkp⟩:=hrel
  have HK:=hid hk
  have HR:=hid hr
  have HXK:=hid hxk
  have HKP:=hid hkp
  have HOWN:=hid hown
  obtain ⟨la,lc,wa,wc,c0,c1,c2,c3,hfz,_,_,hb,_,hwn⟩:=hrd.facts
  clear hkp hk hr hxk c0 c2 c3 hfz
  cases hd:ws.drop k with
  | nil =>
   rw [hd] at hm hrd c1 hwn
   cases hm
   have HRD:=hid hrd
   obtain ⟨ua,un,rfl⟩:=own_slice hown
   clear hrd hown hd HH HM
   go_wp2
   go_ret
   refine ⟨_,rfl,?_,HRD.out,HKP.out⟩
   have hr:=HR.out
   rw [List.append_nil] at hr
   rw [hr]
   exact HOWN.out
  | cons x l =>
   have hlt:k < ws.length:=by
    have:=congrArg List.length hd
    rw [List.length_drop] at this
    simp at this
    omega
   have hdk:ws.drop (k+1)=l:=by
    have:=List.drop_drop (i:=1) (j:=k) (l:=ws)
    rw [hd] at this
    simpa [Nat.add_comm] using this.symm
   have HDK:=hid hdk
   have HLT:=hid hlt
   rw [hd] at hm hrd c1 hwn
   rw [marks_cons] at hm
   have hq:(mkN x 116).2=0:=by
    by_cases hq:(mkN x 116).2=0
    ·exact hq
    ·rw [if_neg hq] at hm;cases hm
   rw [if_pos hq] at hm
   have HC:=hid (mark_yes (c:=116) hrd (show markC 116 (x :: l)=some ((mkN x 116).1,l) by rw [markC_cons,if_pos hq]))
   rw [show (((116:UInt8).toNat:Nat):Int)=116 from rfl] at HC
   unfold Goes at HC
   cases hy:marksO 116 l with
   | none=>rw [hy] at hm;cases hm
   | some zs =>
    rw [hy] at hm
    have HZ:Hid (ys=(mkN x 116).1 :: zs):=(Option.some.inj hm).symm
    have HY:=hid hy
    have HO1:=hid (fun w' (hk:Kept [b] wr w')=>owns_go hrd hown (by decide) hk)
    obtain ⟨ua,un,rfl⟩:=own_slice hown
    have h0:(0:Int) < ((x :: l).length:Int):=by simp only [List.length_cons];omega
    clear hm hy hrd hown hd hdk hlt hq HM HH
    generalize (mkN x 116).1=q at *
    generalize (x :: l).length=n1 at *
    go_wp2_with fail
    refine HC.out.mono ?_
    rintro e w1 ⟨rfl,hr1,hk1⟩
    have HR1:=hid hr1
    have HK1:=hid (HKP.out.trans hk1)
    have ho2:=(HO1.out w1 hk1).alloc (.cells #[.int .i64 q] 3)
    have HO2:=hid ho2
    have HI:=hid (ints_one (w:=w1.alloc (.cells #[.int .i64 q] 3)) (b:=w1.heap.size) (n:=q) (cell_new _ _ _ _ rfl) (size_new _ _ _ rfl))
    have hsz:w.heap.size≤(w1.alloc (.cells #[.int .i64 q] 3)).heap.size:=by have:=HK1.out.size;simp only [World.size_alloc];omega
    have hxs:xs.length≤100000:=by have:=HXK.out;have:=HLT.out;omega
    clear hr1 hk1 ho2 HC HO1
    go_wp2_with (at_builtin;refine wpList_append_ints rfl (.tmp 11) (.tmp 14) rfl w.heap.size (.slice ua xs.length un) rfl xs.length (intVals xs) HO2.out hxs (.slice (some ⟨w1.heap.size,0,none⟩) 1 1) [q] rfl HI.out (by simp) hsz ?_)
    intro v' w' hown' hgr
    have HR2:=hid (Rdr_grown (HR1.out.on (alloc_below w1 _)) HO2.out hWb (by decide) hgr)
    have HK2:=hid (Kept_grown (HK1.out.alloc _) HO2.out (Nat.le_refl _) hgr)
    have HNO:Hid (w'.ownsRow w.heap.size 3 1 v' (xs++[q]).length (intVals (xs++[q]))):=by
     show World.ownsRow _ _ _ _ _ _ _
     rw [intVals_append,List.length_append]
     exact hown'
    obtain ⟨va,vn,rfl⟩:=own_slice hown'
    clear hown' hgr HI HO2 HR1 HK1 c1 hsz
    go_wp2
    go_roundg (gk - 1)
    case measure=>have:=HK.out;have:=HLT.out;omega
    case rel=>exact ⟨k+1,xs++[q],zs,by have:=HK.out;have:=HLT.out;omega,by rw [HR.out,HZ.out];simp,by have:=HXK.out;simp;omega,by rw [HDK.out];exact HY.out,HNO.out,by rw [HDK.out];exact HR2.out,HK2.out⟩
theorem parts_no (h:Rdr W b L ws reg tv w) (hm:marksO 116 ws=none):Calls Tryz.prog 133 #[.pointer (some ⟨b,0,none⟩)] w (Out b w):=by
 have HM:=hid hm
 have hn:=h.fw.1
 have hWb:=h.be.size
 have HH:=hid h
 clear h hm
 go_enter Tryz.func133,Tryz.ntmps133
 go_wp2_with fail
 go_loopg [3] ws.length (fun gk u wr=>∃ (k:Nat) (xs:List Int),k+gk=ws.length∧xs.length=k∧marksO 116 (ws.drop k)=none∧wr.ownsRow w.heap.size 3 1 u xs.length (intVals xs)∧Rdr W b L (ws.drop k) reg tv wr∧Kept [b] w wr)
 case atStart=>exact ⟨0,[],by omega,rfl,HM.out,World.ownsRow_nil _ _ _ _,HH.out,Kept.refl _ _⟩
 case round =>
  obtain ⟨k,xs,hk,hxk,hm,hown,hrd,hkp⟩:=hrel
  have HK:=hid hk
  have HXK:=hid hxk
  have HKP:=hid hkp
  have HOWN:=hid hown
  obtain ⟨la,lc,wa,wc,c0,c1,c2,c3,hfz,_,_,hb,_,hwn⟩:=hrd.facts
  clear hkp hk hxk c0 c2 c3 hfz
  cases hd:ws.drop k with
  | nil=>rw [hd] at hm;cases hm
  | cons x l =>
   have hlt:k < ws.length:=by
    have:=congrArg List.length hd
    rw [List.length_drop] at this
    simp at this
    omega
   have hdk:ws.drop (k+1)=l:=by
    have:=List.drop_drop (i:=1) (j:=k) (l:=ws)
    rw [hd] at this
    simpa [Nat.add_comm] using this.symm
   have HDK:=hid hdk
   have HLT:=hid hlt
   rw [hd] at hm hrd c1 hwn
   rw [marks_cons] at hm
   have h0:(0:Int) < ((x :: l).length:Int):=by simp only [List.length_cons];omega
   by_cases hq:(mkN x 116).2=0
   rotate_left
   ·have HC:=hid (mark_no (c:=116) hrd (show markC 116 (x :: l)=none by rw [markC_cons,if_neg hq]))
    rw [show (((116:UInt8).toNat:Nat):Int)=116 from rfl] at HC
    unfold Out at HC
    obtain ⟨ua,un,rfl⟩:=own_slice hown
    clear hm hrd hown hd hdk hlt hq HM HH
    generalize (x :: l).length=n1 at *
    go_wp2_with fail
    refine HC.out.mono ?_
    rintro e w1 ⟨rfl,hk1⟩
    have HK1:=hid (HKP.out.trans hk1)
    clear hk1 HC
    go_wp2
    exact ⟨rfl,rfl,HK1.out⟩
   rw [if_pos hq] at hm
   have HC:=hid (mark_yes (c:=116) hrd (show markC 116 (x :: l)=some ((mkN x 116).1,l) by rw [markC_cons,if_pos hq]))
   rw [show (((116:UInt8).toNat:Nat):Int)=116 from rfl] at HC
   unfold Goes at HC
   cases hy:marksO 116 l with
   | some zs=>rw [hy] at hm;cases hm
   | none =>
    have HY:=hid hy
    have HO1:=hid (fun w' (hk:Kept [b] wr w')=>owns_go hrd hown (by decide) hk)
    obtain ⟨ua,un,rfl⟩:=own_slice hown
    clear hm hy hrd hown hd hdk hlt hq HM HH
    generalize (mkN x 116).1=q at *
    generalize (x :: l).length=n1 at *
    go_wp2_with fail
    refine HC.out.mono ?_
    rintro e w1 ⟨rfl,hr1,hk1⟩
    have HR1:=hid hr1
    have HK1:=hid (HKP.out.trans hk1)
    have ho2:=(HO1.out w1 hk1).alloc (.cells #[.int .i64 q] 3)
    have HO2:=hid ho2
    have HI:=hid (ints_one (w:=w1.alloc (.cells #[.int .i64 q] 3)) (b:=w1.heap.size) (n:=q) (cell_new _ _ _ _ rfl) (size_new _ _ _ rfl))
    have hsz:w.heap.size≤(w1.alloc (.cells #[.int .i64 q] 3)).heap.size:=by have:=HK1.out.size;simp only [World.size_alloc];omega
    have hxs:xs.length≤100000:=by have:=HXK.out;have:=HLT.out;omega
    clear hr1 hk1 ho2 HC HO1
    go_wp2_with (at_builtin;refine wpList_append_ints rfl (.tmp 11) (.tmp 14) rfl w.heap.size (.slice ua xs.length un) rfl xs.length (intVals xs) HO2.out hxs (.slice (some ⟨w1.heap.size,0,none⟩) 1 1) [q] rfl HI.out (by simp) hsz ?_)
    intro v' w' hown' hgr
    have HR2:=hid (Rdr_grown (HR1.out.on (alloc_below w1 _)) HO2.out hWb (by decide) hgr)
    have HK2:=hid (Kept_grown (HK1.out.alloc _) HO2.out (Nat.le_refl _) hgr)
    have HNO:Hid (w'.ownsRow w.heap.size 3 1 v' (xs++[q]).length (intVals (xs++[q]))):=by
     show World.ownsRow _ _ _ _ _ _ _
     rw [intVals_append,List.length_append]
     exact hown'
    obtain ⟨va,vn,rfl⟩:=own_slice hown'
    clear hown' hgr HI HO2 HR1 HK1 c1 hsz
    go_wp2
    go_roundg (gk - 1)
    case measure=>have:=HK.out;have:=HLT.out;omega
    case rel=>exact ⟨k+1,xs++[q],by have:=HK.out;have:=HLT.out;omega,by have:=HXK.out;simp;omega,by rw [HDK.out];exact HY.out,HNO.out,by rw [HDK.out];exact HR2.out,HK2.out⟩
end Go.Proofs.YtbebficgcemkoaaGreatDoor.RcD
namespace Go.Proofs.YtbebficgcemkoaaGreatDoor.RcN
open Go.RowKit Go.Lib TyM TyP ShM ShP ShB IntO SetP LxM LxJ LxY RwO RdM RdN RdV RdB Aft RcP RcA RcB

variable {W:World} {b:Nat} {L:List Ln} {ws:Ln} {reg:Int} {tv:Value} {w:World}

theorem q46x2 {P:Prop} (h:P:=by
 go_enter Tryz.func181,Tryz.ntmps181
 go_wp2_with fail
 refine HC.out.mono ?_
 rintro e w1 ⟨rfl,hk⟩
 go_wp2
 exact ⟨rfl,rfl,hk⟩):P:=h
theorem int_nil (h:Rdr W b L [] reg tv w):Calls Tryz.prog 181 #[.pointer (some ⟨b,0,none⟩),.int .u8 1] w (Out b w):=by
 have HC:=hid (word_no h)
 unfold Out at HC
 clear h
 exact q46x2
theorem int_yes {x:ByteArray} (h:Rdr W b L (x :: ws) reg tv w) (hx:(NumP.rd (un x)).2=0):Calls Tryz.prog 181 #[.pointer (some ⟨b,0,none⟩),.int .u8 1] w (Goes W b L ws reg tv (.int .i64 (NumP.rd (un x)).1) w):=by
 have HC:=hid (word_yes h)
 have HM:=hid (fun wx=>NumF.read_calls x (h.fw.2 x (by simp)).2 wx)
 unfold Goes at HC
 unfold NumR.RdPost at HM
 rw [show x.data.toList=un x from rfl] at HM
 rw [hx] at HM
 clear h hx
 generalize (NumP.rd (un x)).1=q at *
 go_enter Tryz.func181,Tryz.ntmps181
 go_wp2_with fail
 refine HC.out.mono ?_
 rintro e w1 ⟨rfl,hr1,hk⟩
 have HK:=hid hk
 have HR:=hid hr1
 clear hr1 hk HC
 go_wp2_with fail
 refine (HM.out _).mono ?_
 rintro e w2 ⟨rfl,hb2⟩
 have HK2:=hid (HK.out.go hb2)
 have HR2:=hid (HR.out.on hb2)
 clear HM hb2 HK HR
 go_wp2_with fail
 refine (must_yes w2).mono ?_
 rintro e w3 ⟨rfl,rfl⟩
 go_wp2
 go_ret
 exact ⟨rfl,HR2.out,HK2.out⟩
theorem int_no {x:ByteArray} (h:Rdr W b L (x :: ws) reg tv w) (hx:(NumP.rd (un x)).2≠0):Calls Tryz.prog 181 #[.pointer (some ⟨b,0,none⟩),.int .u8 1] w (Out b w):=by
 have HC:=hid (word_yes h)
 have HM:=hid (fun wx=>NumF.read_calls x (h.fw.2 x (by simp)).2 wx)
 unfold Goes at HC
 unfold NumR.RdPost at HM
 rw [show x.data.toList=un x from rfl] at HM
 clear h
 generalize (NumP.rd (un x)).1=q at *
 generalize (NumP.rd (un x)).2=z at *
 have hz:(z == 0)=false:=by simpa using hx
 clear hx
 go_enter Tryz.func181,Tryz.ntmps181
 go_wp2_with fail
 refine HC.out.mono ?_
 rintro e w1 ⟨rfl,hr1,hk⟩
 have HK:=hid hk
 have HR:=hid hr1
 clear hr1 hk HC
 go_wp2_with fail
 refine (HM.out _).mono ?_
 rintro e w2 ⟨rfl,hb2⟩
 have HK2:=hid (HK.out.go hb2)
 have HR2:=hid (HR.out.on hb2)
 clear HM hb2 HK HR
 go_wp2_with fail
 refine (must_no w2).mono ?_
 rintro e w3 ⟨rfl,rfl⟩
 go_wp2
 exact ⟨rfl,rfl,HK2.out⟩
theorem q46x1 {P:Prop} (h:P:=by
 unfold Goes at HC
 clear h hm
 go_enter Tryz.func181,Tryz.ntmps181
 go_wp2_with fail
 refine HC.out.mono ?_
 rintro e w1 ⟨rfl,hr1,hk⟩
 have HR:=hid hr1
 clear hr1
 go_wp2
 go_ret
 exact ⟨rfl,HR.out,hk⟩):P:=h
theorem fn_yes {n:Int} {ws2:Ln} (h:Rdr W b L ws reg tv w) (hm:markC 102 ws=some (n,ws2)):Calls Tryz.prog 181 #[.pointer (some ⟨b,0,none⟩),.int .u8 3] w (Goes W b L ws2 reg tv (.int .i64 n) w):=by
 have HC:=hid (mark_yes (c:=102) h hm)
 rw [show (((102:UInt8).toNat:Nat):Int)=102 from rfl] at HC
 exact q46x1
theorem fn_no (h:Rdr W b L ws reg tv w) (hm:markC 102 ws=none):Calls Tryz.prog 181 #[.pointer (some ⟨b,0,none⟩),.int .u8 3] w (Out b w):=by
 have HC:=hid (mark_no (c:=102) h hm)
 rw [show (((102:UInt8).toNat:Nat):Int)=102 from rfl] at HC
 unfold Out at HC
 clear h hm
 exact q46x2
theorem call_yes {n:Int} {ws2:Ln} (h:Rdr W b L ws reg tv w) (hm:markC 102 ws=some (n,ws2)):Calls Tryz.prog 181 #[.pointer (some ⟨b,0,none⟩),.int .u8 18] w (Goes W b L ws2 reg tv (.int .i64 n) w):=by
 have HC:=hid (mark_yes (c:=102) h hm)
 rw [show (((102:UInt8).toNat:Nat):Int)=102 from rfl] at HC
 exact q46x1
theorem call_no (h:Rdr W b L ws reg tv w) (hm:markC 102 ws=none):Calls Tryz.prog 181 #[.pointer (some ⟨b,0,none⟩),.int .u8 18] w (Out b w):=by
 have HC:=hid (mark_no (c:=102) h hm)
 rw [show (((102:UInt8).toNat:Nat):Int)=102 from rfl] at HC
 unfold Out at HC
 clear h hm
 exact q46x2
theorem field_yes {n:Int} {ws2:Ln} (h:Rdr W b L ws reg tv w) (hm:smallC ws=some (n,ws2)):Calls Tryz.prog 181 #[.pointer (some ⟨b,0,none⟩),.int .u8 14] w (Goes W b L ws2 reg tv (.int .i64 n) w):=by
 have HC:=hid (small_yes h hm)
 exact q46x1
theorem field_no (h:Rdr W b L ws reg tv w) (hm:smallC ws=none):Calls Tryz.prog 181 #[.pointer (some ⟨b,0,none⟩),.int .u8 14] w (Out b w):=by
 have HC:=hid (small_no h hm)
 unfold Out at HC
 clear h hm
 exact q46x2
theorem none_yes {op:Int} (h:Rdr W b L ws reg tv w) (e1:(op == 1)=false) (e3:(op == 3)=false) (e18:(op == 18)=false) (e14:(op == 14)=false):Calls Tryz.prog 181 #[.pointer (some ⟨b,0,none⟩),.int .u8 op] w (Goes W b L ws reg tv (.int .i64 0) w):=by
 have HR:=hid h
 clear h
 go_enter Tryz.func181,Tryz.ntmps181
 go_wp2
 go_ret
 exact ⟨rfl,HR.out,Kept.refl _ _⟩
theorem numC_cases (op:Int):op=1∨op=3∨op=18∨op=14∨((op == 1)=false∧(op == 3)=false∧(op == 18)=false∧(op == 14)=false∧hasNB op=false):=by
 unfold hasNB
 simp
 omega
theorem num_mark {op:Int} (h:op=3∨op=18) (l:Ln):numC op l=markC 102 l:=by
 have hn:hasNB op=true:=by unfold hasNB;simp;omega
 unfold numC
 rw [if_pos hn]
 cases l with
 | nil=>rfl
 | cons x l =>
  have e1:¬ op=1:=by omega
  have e2:¬ op=14:=by omega
  simp [numP,e1,e2,markC_cons]
theorem num_small (l:Ln):numC 14 l=smallC l:=by
 unfold numC
 rw [if_pos (by decide)]
 cases l with
 | nil=>rfl
 | cons x l=>simp [numP,smallC_cons]
theorem num_int (l:Ln):numC 1 l=(match l with
  | []=>none
  | x :: l=>if (NumP.rd (un x)).2=0 then some ((NumP.rd (un x)).1,l) else none):=by
 unfold numC
 rw [if_pos (by decide)]
 cases l with
 | nil=>rfl
 | cons x l=>simp [numP]
theorem number_yes {op:Int} {n:Int} {ws' : Ln} (h:Rdr W b L ws reg tv w) (hm:numC op ws=some (n,ws')):Calls Tryz.prog 181 #[.pointer (some ⟨b,0,none⟩),.int .u8 op] w (Goes W b L ws' reg tv (.int .i64 n) w):=by
 rcases numC_cases op with rfl | rfl | rfl | rfl | ⟨e1,e3,e18,e14,hn⟩
 ·rw [num_int] at hm
  cases ws with
  | nil=>cases hm
  | cons x l =>
   simp only at hm
   split at hm
   ·rename_i hx;cases hm;exact int_yes h hx
   ·cases hm
 ·rw [num_mark (.inl rfl)] at hm;exact fn_yes h hm
 ·rw [num_mark (.inr rfl)] at hm;exact call_yes h hm
 ·rw [num_small] at hm;exact field_yes h hm
 ·unfold numC at hm
  rw [hn] at hm
  simp at hm
  obtain ⟨rfl,rfl⟩:=hm
  exact none_yes h e1 e3 e18 e14
theorem number_no {op:Int} (h:Rdr W b L ws reg tv w) (hm:numC op ws=none):Calls Tryz.prog 181 #[.pointer (some ⟨b,0,none⟩),.int .u8 op] w (Out b w):=by
 rcases numC_cases op with rfl | rfl | rfl | rfl | ⟨e1,e3,e18,e14,hn⟩
 ·rw [num_int] at hm
  cases ws with
  | nil=>exact int_nil h
  | cons x l =>
   simp only at hm
   split at hm
   ·cases hm
   ·rename_i hx;exact int_no h hx
 ·rw [num_mark (.inl rfl)] at hm;exact fn_no h hm
 ·rw [num_mark (.inr rfl)] at hm;exact call_no h hm
 ·rw [num_small] at hm;exact field_no h hm
 ·unfold numC at hm
  rw [hn] at hm
  simp at hm
end Go.Proofs.YtbebficgcemkoaaGreatDoor.RcN
namespace Go.Proofs.YtbebficgcemkoaaGreatDoor.RdK
open Go.RowKit Go.Lib TyM TyP ShM ShP ShB IntO SetP LxM LxJ RwO RdB Aft

def PartsAt (B:Nat) (w:World) (v:Value) (l:List Int):Prop:=IntsAt w v l∧∀ g,v.ownBlock=some g→B≤g∧∃ cs fr,w.heap[g]?=some (.cells cs 3 fr)
theorem parts_none (B:Nat) (w:World):PartsAt B w (.slice none 0 0) []:=⟨ints_none w,fun g h=>by cases h⟩
theorem PartsAt.below {B:Nat} {w w' : World} {v:Value} {l:List Int} (h:PartsAt B w v l) (hb:Below w.heap.size w w'):PartsAt B w' v l :=
 ⟨h.1.below hb,fun g hg=>by
  obtain ⟨h1,cs,fr,h2⟩:=h.2 g hg
  exact ⟨h1,cs,fr,(hb.block g (Array.getElem?_eq_some_iff.1 h2).1).trans h2⟩⟩
theorem parts_of {B C:Nat} {w:World} {v:Value} {l:List Int} (h:w.ownsRow B 3 1 v l.length (intVals l)) (hC:C≤B):PartsAt C w v l :=
 ⟨intsAt_of_owns h (own_len h),fun g hg=>⟨by have:=(h.lt g hg).1;omega,own_typed h g hg⟩⟩
theorem parts_set {B:Nat} {w W3:World} {v:Value} {l:List Int} {n:Nat} {cs:Array Value} (h:PartsAt B w v l) (hb:n < B) (hB:∀ k,k≠n→W3.heap[k]?=w.heap[k]?) (hs:w.heap.size≤W3.heap.size) (_:w.heap[n]?=some (.cells cs 77 (0,0))):PartsAt B W3 v l:=by
 obtain ⟨⟨ao,cap,rfl,hl,hm,hz,hc⟩,h2⟩:=h
 refine ⟨⟨ao,cap,rfl,hl,fun h0=>?_,hz,hc⟩,fun g hg=>?_⟩
 ·obtain ⟨b,off,rfl,hlt,hx⟩:=hm h0
  obtain ⟨h3,_⟩:=h2 b rfl
  have hne:b≠n:=by omega
  exact ⟨b,off,rfl,by omega,fun i hi=>(World.cell?_of_block (hB b hne)).trans (hx i hi)⟩
 ·obtain ⟨h3,cs2,fr,h4⟩:=h2 g hg
  exact ⟨h3,cs2,fr,(hB g (by omega)).trans h4⟩
theorem PartsAt.base {B C:Nat} {w:World} {v:Value} {l:List Int} (h:PartsAt B w v l) (hC:C≤B):PartsAt C w v l:=⟨h.1,fun g hg=>⟨by have:=(h.2 g hg).1;omega,(h.2 g hg).2⟩⟩
theorem one_of {l:List Int} (h:l.length=1):∃ t,l=[t]:=by
 match l,h with
 | [t],_=>exact ⟨t,rfl⟩
theorem more_of {l:List Int} (h:1≤l.length):∃ t r,l=t :: r:=by
 match l,h with
 | t :: r,_=>exact ⟨t,r,rfl⟩
theorem sizeInt (w:World):(sizeOf (Tryz.prog.elem 55)).run Tryz.prog w=.ok 1 w:=by kernel_rfl
theorem parts_drop {B:Nat} {w:World} {ao:Option Addr} {n cap:Nat} {l:List Int} (h:PartsAt B w (.slice ao n cap) l) {k:Nat} (hk:k≤l.length):∃ v,PartsAt B w v (l.drop k)∧(∀ wx:World,(Instr.slice 55 (.slice ao n cap) (some (.int .i64 (k:Int))) none none).run Tryz.prog wx=.ok v wx):=by
 obtain ⟨⟨ao2,cap2,he,hl,hm,hz,hc⟩,h2⟩:=h
 cases he
 refine ⟨sliced ao k l.length cap 1,⟨?_,?_⟩,fun wx=>?_⟩
 ·unfold sliced
  by_cases hcx:cap=k
  ·rw [if_pos hcx]
   have:l.drop k=[]:=List.drop_eq_nil_of_le (by omega)
   rw [this]
   exact ⟨ao,cap - k,by simp;omega,by simp,(fun h=>by simp at h),(fun h=>by have:=hz h;omega),by simp⟩
  ·rw [if_neg hcx]
   by_cases h0:0 < l.length
   ·obtain ⟨b,off,rfl,hb,hx⟩:=hm h0
    refine ⟨some ⟨b,off+k,none⟩,cap - k,by simp [Addr.add],by simp;omega,fun _=>⟨b,off+k,rfl,hb,fun i hi=>?_⟩,(fun h=>by cases h),by simp;omega⟩
    have hi' : k+i < l.length:=by simp at hi;omega
    rw [List.getElem_drop,show off+k+i=off+(k+i) by omega]
    exact hx _ hi'
   ·obtain rfl:l=[]:=List.eq_nil_of_length_eq_zero (by omega)
    have hk0:k=0:=by simpa using hk
    subst hk0
    cases ao with
    | none=>exact ⟨none,cap,by simp,by simp,(fun h=>by simp at h),hz,by simp⟩
    | some a=>exact ⟨some (a.add 0),cap,by simp,by simp,(fun h=>by simp at h),(fun h=>by cases h),by simp⟩
 ·intro g hg
  refine h2 g ?_
  unfold sliced at hg
  cases ao with
  | none=>split at hg<;>simp [Value.ownBlock] at hg
  | some a =>
   split at hg
   ·simpa [Value.ownBlock] using hg
   ·have:(a.add (k * 1)).block=a.block:=by unfold Addr.add;split<;>rfl
    simp only [Option.map_some,Value.ownBlock,this] at hg
    exact hg
 ·rw [run_slice_l (P:=Tryz.prog) (w:=wx) 55 ao l.length cap (by kernel_rfl) .i64 k (by omega) (by omega),sizeInt]
  simp [Result.andThen]
end Go.Proofs.YtbebficgcemkoaaGreatDoor.RdK
namespace Go.Proofs.YtbebficgcemkoaaGreatDoor.RdO
open Go.RowKit Go.Lib TyM TyP ShM ShP ShB IntO SetP LxM LxJ LxY RdM RdA Aft

def wdOf (k:Nat):ByteArray:=⟨(wordsL.getD k []).toArray⟩
def WordR (k:Nat) (w:World) (e:Ending) (w' : World):Prop:=e=.returned (.string (wdOf k))∧Below w.heap.size w w'
theorem word_calls (k:Nat) (hk:k < 23) (w:World):Calls Tryz.prog 107 #[.int .u8 (k:Int)] w (WordR k w):=by
 have hk2:(k:Int) < 23:=by omega
 have hc:∀ j,j < 23→(wordsL.map fun s=>Value.string ⟨s.toArray⟩)[j]?=some (.string (wdOf j)):=fun j hj=>by
  rw [List.getElem?_map]
  unfold wdOf
  rw [List.getD_eq_getElem?_getD]
  have:j < wordsL.length:=hj
  rw [List.getElem?_eq_getElem this];rfl
 have hcl:([.string ⟨#[]⟩,.string ⟨#[105,110,116]⟩,.string ⟨#[110,117,108,108]⟩,.string ⟨#[102,110]⟩,.string ⟨#[97,100,100]⟩,.string ⟨#[115,117,98]⟩,.string ⟨#[109,117,108]⟩,.string ⟨#[100,105,118]⟩,.string ⟨#[108,101,115,115]⟩,.string ⟨#[101,113]⟩,.string ⟨#[115,97,109,101]⟩,.string ⟨#[110,101,119]⟩,.string ⟨#[108,111,99,97,108]⟩,.string ⟨#[102,114,101,101]⟩,.string ⟨#[102,105,101,108,100]⟩,.string ⟨#[101,108,101,109]⟩,.string ⟨#[108,111,97,100]⟩,.string ⟨#[115,116,111,114,101]⟩,.string ⟨#[99,97,108,108]⟩,.string ⟨#[105,99,97,108,108]⟩,.string ⟨#[114,101,97,100]⟩,.string ⟨#[112,114,105,110,116]⟩,.string ⟨#[112,104,105]⟩]:List Value)[k]?=some (.string (wdOf k)):=by
  have:=hc k hk
  rw [← this]
  rfl
 have hb:=Aft.alloc (Aft.refl w) (.cells #[.string ⟨#[]⟩,.string ⟨#[105,110,116]⟩,.string ⟨#[110,117,108,108]⟩,.string ⟨#[102,110]⟩,.string ⟨#[97,100,100]⟩,.string ⟨#[115,117,98]⟩,.string ⟨#[109,117,108]⟩,.string ⟨#[100,105,118]⟩,.string ⟨#[108,101,115,115]⟩,.string ⟨#[101,113]⟩,.string ⟨#[115,97,109,101]⟩,.string ⟨#[110,101,119]⟩,.string ⟨#[108,111,99,97,108]⟩,.string ⟨#[102,114,101,101]⟩,.string ⟨#[102,105,101,108,100]⟩,.string ⟨#[101,108,101,109]⟩,.string ⟨#[108,111,97,100]⟩,.string ⟨#[115,116,111,114,101]⟩,.string ⟨#[99,97,108,108]⟩,.string ⟨#[105,99,97,108,108]⟩,.string ⟨#[114,101,97,100]⟩,.string ⟨#[112,114,105,110,116]⟩,.string ⟨#[112,104,105]⟩] 9)
 clear hc hk
 unfold WordR
 generalize wdOf k=s at *
 go_enter Tryz.func107,Tryz.ntmps107
 go_wp2
 go_ret
 exact ⟨rfl,hb.below⟩

def OpR (s:List UInt8) (w:World) (e:Ending) (w' : World):Prop:=e=.returned (.int .u8 (opOf s:Nat))∧Below w.heap.size w w'
theorem wd_ne {k:Nat} {s:ByteArray} (h:wordsL.getD k []≠un s):((wdOf k).toList == s.toList)=false:=by
 rw [beq_eq_false_iff_ne]
 intro e
 rw [Lib.toList_data,Lib.toList_data] at e
 exact h e
theorem wd_eq {k:Nat} {s:ByteArray} (h:wordsL.getD k []=un s):((wdOf k).toList == s.toList)=true:=by
 rw [beq_iff_eq,Lib.toList_data,Lib.toList_data]
 exact h
theorem u8_wrap {k:Nat} (h:k < 23):IntKind.u8.wrap ((k:Int)+1)=((k+1:Nat):Int):=by
 rw [IntWalk.u8_in _ (by omega)];omega
theorem operation_calls (s:ByteArray) (w:World):Calls Tryz.prog 175 #[.string s] w (OpR (un s) w):=by
 have HWC:=hid word_calls
 go_enter Tryz.func175,Tryz.ntmps175
 go_wp2
 go_loopg [3] 22 (fun gk i wr=>∃ k:Nat,k+gk=23∧1≤k∧i=.int .u8 k∧(∀ j,1≤j→j < k→wordsL.getD j []≠un s)∧Aft w wr)
 case atStart=>exact ⟨1,rfl,Nat.le_refl _,rfl,(fun j h1 h2=>absurd h1 (by omega)),Aft.refl _⟩
 case round =>
  obtain ⟨k,hk,h1,rfl,hno,hr⟩:=hrel
  have HK:=hid hk
  have HNO:=hid hno
  clear hno
  by_cases hlt:k < 23
  rotate_left
  ·obtain rfl:k=23:=by omega
   have hz:=op_none HNO.out
   have HZ:=hid hz
   clear hz hk
   go_wp2
   go_ret
   exact ⟨by rw [HZ.out];rfl,hr.below⟩
  have hle:(k:Int)≤22:=by omega
  have HC:=hid (HWC.out k hlt wr)
  by_cases he:wordsL.getD k []=un s
  ·have hz:=op_at h1 hlt he HNO.out
   have HZ:=hid hz
   have hq:=wd_eq he
   clear hz hk he
   unfold WordR at HC
   generalize wdOf k=u at *
   go_wp2_with fail
   refine HC.out.mono ?_
   rintro e w1 ⟨rfl,hb1⟩
   have h2:=hr.go hb1
   clear hb1 HC
   go_wp2
   go_ret
   exact ⟨by rw [HZ.out];rfl,h2.below⟩
  ·have hq:=wd_ne he
   have HNX:Hid (∀ j,1≤j→j < k+1→wordsL.getD j []≠un s):=fun j ha hb=>by
    by_cases e:j=k
    ·subst e;exact he
    ·exact HNO.out j ha (by omega)
   have hwr:=u8_wrap hlt
   clear hk he
   unfold WordR at HC
   generalize wdOf k=u at *
   go_wp2_with fail
   refine HC.out.mono ?_
   rintro e w1 ⟨rfl,hb1⟩
   have h2:=hr.go hb1
   clear hb1 HC
   go_wp2
   go_roundg (gk - 1)
   case measure=>have:=HK.out;omega
   case rel=>exact ⟨k+1,by have:=HK.out;omega,by omega,by go_num,HNX.out,h2⟩
end Go.Proofs.YtbebficgcemkoaaGreatDoor.RdO
namespace Go.Proofs.YtbebficgcemkoaaGreatDoor.RdB
open Go.RowKit Go.Lib TyM TyP ShM ShP ShB IntO SetP LxM LxJ LxY RdM RdA RdO Aft

theorem isEnd_calls (s:ByteArray) (w:World):Calls Tryz.prog 163 #[.string s] w (PureR (isEndB (un s)) w):=by
 have e1:=str_eq s [106,117,109,112]
 have e2:=str_eq s [98,114,97,110,99,104]
 have e3:=str_eq s [114,101,116,117,114,110]
 unfold isEndB
 generalize decide (un s=[106,117,109,112])=d1 at *
 generalize decide (un s=[98,114,97,110,99,104])=d2 at *
 generalize decide (un s=[114,101,116,117,114,110])=d3 at *
 cases d1 with
 | true =>
  go_enter Tryz.func163,Tryz.ntmps163
  go_wp2
  go_ret
  exact ⟨rfl,rfl⟩
 | false =>
 cases d2 with
 | true =>
  go_enter Tryz.func163,Tryz.ntmps163
  go_wp2
  go_ret
  exact ⟨rfl,rfl⟩
 | false =>
  go_enter Tryz.func163,Tryz.ntmps163
  go_wp2
  go_ret
  exact ⟨rfl,rfl⟩
end Go.Proofs.YtbebficgcemkoaaGreatDoor.RdB
namespace Go.Proofs.YtbebficgcemkoaaGreatDoor.RdP
open Go.RowKit Go.Lib TyM TyP ShM ShP ShB IntO SetP LxM LxJ LxY RwO RdM RdB Fresh Aft

def InsR (o:Option Ix) (w:World) (e:Ending) (w' : World):Prop :=
 ∃ (y:Ix) (va vf:Value),e=.returned (.tuple #[ixV y va vf,.bool o.isSome])∧(∀ z,o=some z→y=z)∧OwnIr w.heap.size w' ⟨y,va,vf⟩∧Below w.heap.size w w'

theorem wpList_append_int1 {ops:Array Oper} {rest:List Oper} {o:Oper} {a:Act} {w:World} {Q:Exit→Act→World→Prop} (hgd:o.guard=none) (s x:Operand)
  (ho:o.op=.call { callee:=.builtin .append,args:=#[s,x],argTypes:=#[55,55] })
  (base:Nat) (v0:Value) (hs:a.eval s=v0) (n:Nat) (xs:List Value) (hown:w.ownsRow base 3 1 v0 n xs) (hn:n≤100000) (g:Nat) (q:Int) (hx:a.eval x=.slice (some ⟨g,0,none⟩) 1 1) (hc:w.cell? ⟨g,0,none⟩=some (.int .i64 q)) (hbase:base≤w.heap.size)
  (h:∀ v' w',w'.ownsRow base 3 1 v' (n+1) (xs++intVals [q])→w.grownBy w' v0.ownBlock→NewRow w v0 v'→wpList Tryz.prog ops Q rest (a.put o.dst v') w'):wpList Tryz.prog ops Q (o :: rest) a w:=by
 obtain ⟨i0,hi,hz0,hz1,hz2⟩:=info_parts info_int
 refine wpList_append_fresh w hgd s x 55 ho base 3 i0 (.int .i64 0) 1 8 Tryz.underlying55 hi hz0 hz1 hz2 rfl (by decide) v0 n xs hs hown ⟨g,0,none⟩ 1 1 (intVals [q]) hx rfl (fun j u hj=>?_) (int_one [q]) (by unfold maxLen;omega) (by omega) hbase h
 have hj0:j=0:=by
  have:=(List.getElem?_eq_some_iff.1 hj).1
  rw [intVals_length] at this
  simp at this
  omega
 subst hj0
 cases hj
 exact hc

def Apart (va vf:Value):Prop:=∀ g,va.ownBlock=some g→vf.ownBlock≠some g
structure BoxP (w:World) (x:Ix) (va vf:Value) (la lf:List Int) (wr:World):Prop where
 box:wr.heap[w.heap.size]?=some (.cells #[.int .u8 x.op,.int .i64 x.typ,.int .i64 x.a,.int .i64 x.b,.int .i64 x.n,va,vf] 57 (0,0))
 res:wr.heap[w.heap.size+1]?=some (.cells #[.int .u8 0,.int .i64 0,.int .i64 0,.int .i64 0,.int .i64 0,.slice none 0 0,.slice none 0 0] 57 (0,0))
 owa:wr.ownsRow (w.heap.size+2) 3 1 va la.length (intVals la)
 owf:wr.ownsRow (w.heap.size+2) 3 1 vf lf.length (intVals lf)
 apart:Apart va vf
 below:Below w.heap.size w wr
 size:w.heap.size+2≤wr.heap.size
theorem BoxP.on {w:World} {x:Ix} {va vf:Value} {la lf:List Int} {wr w' : World} (h:BoxP w x va vf la lf wr) (hb:Below wr.heap.size wr w'):BoxP w x va vf la lf w' :=
 ⟨(hb.block _ (by have:=h.size;omega)).trans h.box,(hb.block _ (by have:=h.size;omega)).trans h.res,ownsRow_below h.owa hb,ownsRow_below h.owf hb,h.apart,h.below.trans (hb.mono (by have:=h.size;omega)),by have:=h.size;have:=hb.size;omega⟩
theorem kept_apart {w w' : World} {B:Nat} {va vf:Value} {n:Nat} {xs:List Value} (h:w.ownsRow B 3 1 va n xs) (ha:Apart va vf) (hg:w.grownBy w' vf.ownBlock):w'.ownsRow B 3 1 va n xs:=by
 refine h.kept hg ?_
 cases hv:va.ownBlock with
 | none=>exact .inl rfl
 | some g=>exact .inr (fun e=>ha g hv e.symm)
theorem apart_new {w:World} {B n:Nat} {va vf v5:Value} {xs:List Value} (ha:Apart va vf) (hn:NewRow w vf v5) (ho:w.ownsRow B 3 1 va n xs):Apart va v5:=fun g hg e=>by
 rcases hn with h | ⟨g2,h,h2⟩
 ·exact ha g hg (h ▸ e)
 ·rw [h] at e
  cases e
  have:=(ho.lt g hg).2
  omega
theorem Apart.symm {va vf:Value} (h:Apart va vf):Apart vf va:=fun g h1 h2=>h g h2 h1
theorem BoxP.growF {w:World} {x:Ix} {va vf v5:Value} {la lf:List Int} {w4 w5:World} {q:Int} (h:BoxP w x va vf la lf w4) (h5:w5.ownsRow (w.heap.size+2) 3 1 v5 (lf.length+1) (intVals lf++intVals [q])) (hg:w4.grownBy w5 vf.ownBlock) (hn:NewRow w4 vf v5) :
  BoxP w x va v5 la (lf++[q]) (w5.setCell ⟨w.heap.size,6,none⟩ v5)∧w5.heap[w.heap.size]?=some (.cells #[.int .u8 x.op,.int .i64 x.typ,.int .i64 x.a,.int .i64 x.b,.int .i64 x.n,va,vf] 57 (0,0)):=by
 have hlo:=h.owf.lt
 have hs:=h.size
 have hb5:w5.heap[w.heap.size]?=_:=(hg.block _ (by omega) (fun e=>by have:=(hlo _ e.symm).1;omega)).trans h.box
 have hr5:w5.heap[w.heap.size+1]?=_:=(hg.block _ (by omega) (fun e=>by have:=(hlo _ e.symm).1;omega)).trans h.res
 have hgs:=ShTB.grown_set w5 w.heap.size 6 v5
 refine ⟨⟨(ShTB.set_heap' (i:=6) v5 hb5).trans (by simp),(hgs.block _ (Array.getElem?_eq_some_iff.1 hr5).1 (by simp)).trans hr5,owns_other (kept_apart h.owa h.apart hg) hgs (ShTB.typed_at hb5) (by decide),?_,apart_new h.apart hn h.owa,?_,?_⟩,hb5⟩
 ·rw [List.length_append,intVals_append]
  exact owns_other h5 hgs (ShTB.typed_at hb5) (by decide)
 ·exact (h.below.grown hg (by omega) (fun k hk=>by have:=(hlo k hk).1;omega)).setCell (p:=⟨w.heap.size,6,none⟩) (Nat.le_refl _) v5
 ·rw [ShTB.size_set];have:=hg.size;omega
theorem BoxP.growA {w:World} {x:Ix} {va vf v5:Value} {la lf:List Int} {w4 w5:World} {q:Int} (h:BoxP w x va vf la lf w4) (h5:w5.ownsRow (w.heap.size+2) 3 1 v5 (la.length+1) (intVals la++intVals [q])) (hg:w4.grownBy w5 va.ownBlock) (hn:NewRow w4 va v5) :
  BoxP w x v5 vf (la++[q]) lf (w5.setCell ⟨w.heap.size,5,none⟩ v5)∧w5.heap[w.heap.size]?=some (.cells #[.int .u8 x.op,.int .i64 x.typ,.int .i64 x.a,.int .i64 x.b,.int .i64 x.n,va,vf] 57 (0,0)):=by
 have hlo:=h.owa.lt
 have hs:=h.size
 have hb5:w5.heap[w.heap.size]?=_:=(hg.block _ (by omega) (fun e=>by have:=(hlo _ e.symm).1;omega)).trans h.box
 have hr5:w5.heap[w.heap.size+1]?=_:=(hg.block _ (by omega) (fun e=>by have:=(hlo _ e.symm).1;omega)).trans h.res
 have hgs:=ShTB.grown_set w5 w.heap.size 5 v5
 refine ⟨⟨(ShTB.set_heap' (i:=5) v5 hb5).trans (by simp),(hgs.block _ (Array.getElem?_eq_some_iff.1 hr5).1 (by simp)).trans hr5,?_,owns_other (kept_apart h.owf h.apart.symm hg) hgs (ShTB.typed_at hb5) (by decide),(apart_new h.apart.symm hn h.owf).symm,?_,?_⟩,hb5⟩
 ·rw [List.length_append,intVals_append]
  exact owns_other h5 hgs (ShTB.typed_at hb5) (by decide)
 ·exact (h.below.grown hg (by omega) (fun k hk=>by have:=(hlo k hk).1;omega)).setCell (p:=⟨w.heap.size,5,none⟩) (Nat.le_refl _) v5
 ·rw [ShTB.size_set];have:=hg.size;omega
end Go.Proofs.YtbebficgcemkoaaGreatDoor.RdP
namespace Go.Proofs.YtbebficgcemkoaaGreatDoor.RdQ
open Go.RowKit Go.Lib TyM TyP ShM ShP ShB IntO SetP LxM LxJ LxY RwO RdM RdA RdO RdB RdP Fresh Aft

theorem res_facts {w wr:World} {x:Ix} {va vf:Value} {la lf:List Int} (h:BoxP w x va vf la lf wr) :
  ∃ W3,W3=((((((wr.setCell ⟨w.heap.size+1,0,none⟩ (.int .u8 x.op)).setCell ⟨w.heap.size+1,1,none⟩ (.int .i64 x.typ)).setCell ⟨w.heap.size+1,2,none⟩ (.int .i64 x.a)).setCell ⟨w.heap.size+1,3,none⟩ (.int .i64 x.b)).setCell ⟨w.heap.size+1,4,none⟩ (.int .i64 x.n)).setCell ⟨w.heap.size+1,5,none⟩ va).setCell ⟨w.heap.size+1,6,none⟩ vf ∧
   W3.heap[w.heap.size+1]?=some (.cells #[.int .u8 x.op,.int .i64 x.typ,.int .i64 x.a,.int .i64 x.b,.int .i64 x.n,va,vf] 57 (0,0))∧Below w.heap.size w W3 ∧
   W3.ownsRow w.heap.size 3 1 va la.length (intVals la)∧W3.ownsRow w.heap.size 3 1 vf lf.length (intVals lf):=by
 obtain ⟨W3,h1,h2,h3,h4⟩:=set7_world wr (w.heap.size+1) 57 _ _ _ _ _ _ _ (.int .u8 x.op) (.int .i64 x.typ) (.int .i64 x.a) (.int .i64 x.b) (.int .i64 x.n) va vf h.res
 have hb:=h4 _ _ h.below (by omega)
 have hgr:wr.grownBy W3 (some (w.heap.size+1)):=by
  have hbl:=h4 0 wr (Below.refl _ _) (by omega)
  exact ⟨hbl.os,hbl.tape,hbl.output,hbl.size,fun k _ hk=>h2 k (fun e=>hk (by rw [e]))⟩
 exact ⟨W3,h1,h3,hb,owns_base (owns_other h.owa hgr (ShTB.typed_at h.res) (by decide)) (by omega),owns_base (owns_other h.owf hgr (ShTB.typed_at h.res) (by decide)) (by omega)⟩

theorem q80x1 {P:Prop} (h:P:=by
 rw [← HW3.out]
 refine bodyPost_ret (by simp [results,Tryz.results187,go_sem,x0,x1,x2,x3,x4,x5,x6];try rfl) rfl ?_
 exact ⟨⟨x.op,x.typ,x.a,x.b,x.n,r.map Prod.snd,r.map Prod.fst⟩,_,_,by rw [HPL.out];rfl,(fun z h=>by rw [HPL.out] at h;cases h),⟨HOA.out,HOF.out⟩,HB3.out⟩):P:=h
theorem phi_calls (x:Ix) (l:List ByteArray) (v:Value) (w:World) (hl:LxP.StrsAt w v l) (hn:l.length≤100000) (hs:∀ y∈l,y.size≤9223372036854775807) :
  Calls Tryz.prog 187 #[ixV x (.slice none 0 0) (.slice none 0 0),v] w (InsR (phiP x l) w):=by
 obtain ⟨W,hW⟩:∃ W,W=(w.alloc (.cells #[.int .u8 x.op,.int .i64 x.typ,.int .i64 x.a,.int .i64 x.b,.int .i64 x.n,.slice none 0 0,.slice none 0 0] 57)).alloc (.cells #[.int .u8 0,.int .i64 0,.int .i64 0,.int .i64 0,.int .i64 0,.slice none 0 0,.slice none 0 0] 57):=⟨_,rfl⟩
 have HMD:Hid (BoxP w x (.slice none 0 0) (.slice none 0 0) [] [] W):=by
  refine ⟨?_,?_,World.ownsRow_nil _ _ _ _,World.ownsRow_nil _ _ _ _,(fun g h=>by cases h),?_,?_⟩
  ·rw [hW];exact alloc_old (alloc_new _ _) _
  ·rw [hW]
   have:=alloc_new (w.alloc (.cells #[.int .u8 x.op,.int .i64 x.typ,.int .i64 x.a,.int .i64 x.b,.int .i64 x.n,.slice none 0 0,.slice none 0 0] 57)) (.cells #[.int .u8 0,.int .i64 0,.int .i64 0,.int .i64 0,.int .i64 0,.slice none 0 0,.slice none 0 0] 57)
   rwa [World.size_alloc] at this
  ·rw [hW];exact (alloc_below _ _).alloc (by simp) _
  ·rw [hW];simp only [World.size_alloc];omega
 have HW:=hid hW
 have HL:=hid hl
 have HS:=hid hs
 obtain ⟨ao,cap,rfl,hll⟩:=hl.slice
 clear hl hs hW
 by_cases hodd:l.length % 2=1
 ·have hp:phiP x l=none:=by unfold phiP;rw [pairs_odd hodd];rfl
  rw [hp]
  have hm:((l.length:Int) % 2 == 1)=true:=by simp;omega
  clear HMD HL HS hp hodd
  generalize l.length=ln at *
  go_enter Tryz.func187,Tryz.ntmps187
  go_wp2
  (try simp only [Exit.inBlock,Exit.then])
  refine bodyPost_ret (by simp [results,Tryz.results187,go_sem];try rfl) rfl ?_
  exact ⟨⟨x.op,x.typ,x.a,x.b,x.n,[],[]⟩,.slice none 0 0,.slice none 0 0,rfl,(fun z h=>by cases h),⟨World.ownsRow_nil _ _ _ _,World.ownsRow_nil _ _ _ _⟩,(alloc_below _ _).alloc (by simp) _⟩
 have hm:((l.length:Int) % 2 == 1)=false:=by simp;omega
 have hev:l.length % 2=0:=by omega
 have HEV:=hid hev
 clear hodd hev
 go_enter Tryz.func187,Tryz.ntmps187
 go_wp2_with fail
 rw [← HW.out]
 go_loopg [6] (l.length / 2) (fun gk i wr=>∃ (k:Nat) (r:List (Int × Int)) (va vf:Value),2 * k+2 * gk=l.length∧i=.int .i64 (2 * k:Nat)∧pairsO (l.take (2 * k))=some r∧BoxP w x va vf (r.map Prod.snd) (r.map Prod.fst) wr)
 case atStart=>exact ⟨0,[],_,_,by have:=HEV.out;omega,rfl,rfl,HMD.out⟩
 case round =>
  clear HMD
  obtain ⟨k,r,va,vf,hk,rfl,hp,hbx⟩:=hrel
  have HK:=hid hk
  have HP:=hid hp
  have HB:=hid hbx
  have hrl:r.length=k:=by
   have:=pairs_len hp
   rw [List.length_take] at this
   omega
  have HRL:=hid hrl
  have hva:=own_form hbx.owa
  have hvf:=own_form hbx.owf
  obtain ⟨va1,va3,hva⟩:=hva
  obtain ⟨vf1,vf3,hvf⟩:=hvf
  rw [List.length_map] at hva hvf
  by_cases hlt:2 * k < l.length
  rotate_left
  ·have hke:2 * k=l.length:=by omega
   have hpl:phiP x l=some { x with args:=r.map Prod.snd,frm:=r.map Prod.fst }:=by
    unfold phiP
    have:=HP.out
    rw [hke,List.take_length] at this
    rw [this];rfl
   have HPL:=hid hpl
   have hbo:=hbx.box
   have hre:=hbx.res
   have m0:=cells_of hbo 0 _ rfl;have m1:=cells_of hbo 1 _ rfl;have m2:=cells_of hbo 2 _ rfl;have m3:=cells_of hbo 3 _ rfl;have m4:=cells_of hbo 4 _ rfl;have m5:=cells_of hbo 5 _ rfl;have m6:=cells_of hbo 6 _ rfl
   have y0:=cells_of hre 0 _ rfl;have y1:=cells_of hre 1 _ rfl;have y2:=cells_of hre 2 _ rfl;have y3:=cells_of hre 3 _ rfl;have y4:=cells_of hre 4 _ rfl;have y5:=cells_of hre 5 _ rfl;have y6:=cells_of hre 6 _ rfl
   have z0:=(ShTB.cells_heap hre).2 0;have z1:=(ShTB.cells_heap hre).2 1;have z2:=(ShTB.cells_heap hre).2 2;have z3:=(ShTB.cells_heap hre).2 3;have z4:=(ShTB.cells_heap hre).2 4;have z5:=(ShTB.cells_heap hre).2 5;have z6:=(ShTB.cells_heap hre).2 6
   obtain ⟨W3,hW3,hk3,hb3,hoa,hof⟩:=res_facts hbx
   have HW3:=hid hW3
   have HB3:=hid hb3
   have HOA:=hid hoa
   have HOF:=hid hof
   have x0:=cells_of hk3 0 _ rfl;have x1:=cells_of hk3 1 _ rfl;have x2:=cells_of hk3 2 _ rfl;have x3:=cells_of hk3 3 _ rfl;have x4:=cells_of hk3 4 _ rfl;have x5:=cells_of hk3 5 _ rfl;have x6:=cells_of hk3 6 _ rfl
   subst hva
   subst hvf
   clear hW3 hk3 hb3 hoa hof hbo hre hbx hp hpl HL HS HB HP hk hrl
   have hln:(l.length:Int)=(2 * k:Nat):=by omega
   generalize l.length=ln at *
   subst hke
   clear hlt hm hln
   go_wp2
   (try simp only [Exit.inBlock,Exit.then])
   rw [← HW3.out]
   refine bodyPost_ret (by simp [results,Tryz.results187,go_sem,x0,x1,x2,x3,x4,x5,x6];try rfl) rfl ?_
   exact ⟨⟨x.op,x.typ,x.a,x.b,x.n,r.map Prod.snd,r.map Prod.fst⟩,_,_,by rw [HPL.out];rfl,(fun z h=>by rw [HPL.out] at h;exact Option.some.inj h),⟨HOA.out,HOF.out⟩,HB3.out⟩
  ·have hlt1:2 * k+1 < l.length:=by have:=HEV.out;omega
   have hle:Below w.heap.size w wr:=hbx.below
   obtain ⟨b,off,hao,c0⟩:=word_at (HL.out.below hle) (2 * k) hlt
   subst hao
   obtain ⟨b',off',hao,c1⟩:=word_at (HL.out.below hle) (2 * k+1) hlt1
   cases hao
   have d0:=later c0
   have d1:=later c1
   have HM0:=hid (markR_calls (l.getD (2 * k) ⟨#[]⟩) (HS.out _ (by rw [List.getD_eq_getElem?_getD,List.getElem?_eq_getElem hlt];exact List.getElem_mem hlt)) 98 wr)
   have HM1:=hid (fun wx=>markR_calls (l.getD (2 * k+1) ⟨#[]⟩) (HS.out _ (by rw [List.getD_eq_getElem?_getD,List.getElem?_eq_getElem hlt1];exact List.getElem_mem hlt1)) 114 wx)
   rw [show (((98:UInt8).toNat:Nat):Int)=98 from rfl] at HM0
   rw [show (((114:UInt8).toNat:Nat):Int)=114 from rfl] at HM1
   have HBAD:Hid (¬ ((mkN (l.getD (2 * k) ⟨#[]⟩) 98).2=0∧(mkN (l.getD (2 * k+1) ⟨#[]⟩) 114).2=0)→phiP x l=none):=fun h=>by unfold phiP;rw [pairs_bad hlt1 h];rfl
   have HNX:Hid ((mkN (l.getD (2 * k) ⟨#[]⟩) 98).2=0→(mkN (l.getD (2 * k+1) ⟨#[]⟩) 114).2=0→pairsO (l.take (2 * (k+1)))=some (r++[((mkN (l.getD (2 * k) ⟨#[]⟩) 98).1,(mkN (l.getD (2 * k+1) ⟨#[]⟩) 114).1)])):=fun h1 h2=>by
    have e:l.take (2 * (k+1))=l.take (2 * k)++[l.getD (2 * k) ⟨#[]⟩,l.getD (2 * k+1) ⟨#[]⟩]:=by
     rw [show 2 * (k+1)=2 * k+1+1 by omega,List.take_succ_eq_append_getElem hlt1,List.take_succ_eq_append_getElem hlt]
     rw [List.append_assoc]
     simp only [List.getD_eq_getElem?_getD,List.getElem?_eq_getElem hlt,List.getElem?_eq_getElem hlt1,Option.getD_some]
     rfl
    rw [e]
    exact pairs_snoc h1 h2 HP.out
   have hlk:((2 * k:Nat):Int) < l.length:=by omega
   have hwr:IntKind.i64.wrap (((2 * k:Nat):Int)+1)=((2 * k+1:Nat):Int):=by rw [IntWalk.i64_in _ (by omega)];omega
   have hlk1:((2 * k+1:Nat):Int) < l.length:=by omega
   have h0:=Aft.refl wr
   unfold MkR at HM0 HM1
   clear c0 c1 hp hk hle hlt hlt1 hrl HL HS HP
   generalize l.getD (2 * k) ⟨#[]⟩=s0 at *
   generalize l.getD (2 * k+1) ⟨#[]⟩=s1 at *
   generalize mkN s0 98=p0 at *
   generalize mkN s1 114=p1 at *
   obtain ⟨q0,e0⟩:=p0
   obtain ⟨q1,e1⟩:=p1
   simp only at HM0 HM1 HBAD HNX
   generalize l.length=ln at *
   subst hva
   subst hvf
   go_wp2_with fail
   refine HM0.out.mono ?_
   rintro e w1 ⟨rfl,hb1⟩
   have h1:=h0.go hb1
   have HMM:=hid (HM1.out w1)
   clear hb1 HM0 HM1
   go_wp2_with fail
   refine HMM.out.mono ?_
   rintro e w2 ⟨rfl,hb2⟩
   have h2:=h1.go hb2
   have hbx2:=hbx.on h2.below
   clear hb2 HMM d0 d1 hbx
   by_cases hz:e0=0∧e1=0
   rotate_left
   ·have hpl:=HBAD.out hz
    have HPL:=hid hpl
    have hbo:=hbx2.box
    have hre:=hbx2.res
    have m0:=cells_of hbo 0 _ rfl;have m1:=cells_of hbo 1 _ rfl;have m2:=cells_of hbo 2 _ rfl;have m3:=cells_of hbo 3 _ rfl;have m4:=cells_of hbo 4 _ rfl;have m5:=cells_of hbo 5 _ rfl;have m6:=cells_of hbo 6 _ rfl
    have y0:=cells_of hre 0 _ rfl;have y1:=cells_of hre 1 _ rfl;have y2:=cells_of hre 2 _ rfl;have y3:=cells_of hre 3 _ rfl;have y4:=cells_of hre 4 _ rfl;have y5:=cells_of hre 5 _ rfl;have y6:=cells_of hre 6 _ rfl
    have z0:=(ShTB.cells_heap hre).2 0;have z1:=(ShTB.cells_heap hre).2 1;have z2:=(ShTB.cells_heap hre).2 2;have z3:=(ShTB.cells_heap hre).2 3;have z4:=(ShTB.cells_heap hre).2 4;have z5:=(ShTB.cells_heap hre).2 5;have z6:=(ShTB.cells_heap hre).2 6
    obtain ⟨W3,hW3,hk3,hb3,hoa,hof⟩:=res_facts hbx2
    have HW3:=hid hW3
    have HB3:=hid hb3
    have HOA:=hid hoa
    have HOF:=hid hof
    have x0:=cells_of hk3 0 _ rfl;have x1:=cells_of hk3 1 _ rfl;have x2:=cells_of hk3 2 _ rfl;have x3:=cells_of hk3 3 _ rfl;have x4:=cells_of hk3 4 _ rfl;have x5:=cells_of hk3 5 _ rfl;have x6:=cells_of hk3 6 _ rfl
    have hee:(e0 != 0)=true∨((e0 != 0)=false∧(e1 != 0)=true):=by
     by_cases h:e0=0
     ·exact .inr ⟨by simp [h],by simp;exact fun h2=>hz ⟨h,h2⟩⟩
     ·exact .inl (by simpa using h)
    clear hW3 hk3 hb3 hoa hof hbo hre hbx2 hpl HBAD HNX HB hz h1 h2
    rcases hee with f0 | ⟨f0,f1⟩
    ·go_wp2
     (try simp only [Exit.inBlock,Exit.then])
     exact q80x1
    ·go_wp2
     (try simp only [Exit.inBlock,Exit.then])
     exact q80x1
   obtain ⟨rfl,rfl⟩:=hz
   have hnx:=HNX.out rfl rfl
   have HNX2:=hid hnx
   clear HNX HBAD hnx HB
   have hbx3:=hbx2.on (alloc_below w2 (.cells #[.int .i64 q0] 3))
   have HBX3:=hid hbx3
   have hbo:=hbx2.box
   have m6:=cells_of hbo 6 _ rfl
   have hcc:(w2.alloc (.cells #[.int .i64 q0] 3)).cell? ⟨w2.heap.size,0,none⟩=some (.int .i64 q0):=cell_new _ _ _ _ rfl
   have HCC:=hid hcc
   have hsz:=hbx3.size
   have HOF:=hid (show (w2.alloc (.cells #[.int .i64 q0] 3)).ownsRow (w.heap.size+2) 3 1 (.slice vf1 r.length vf3) r.length (intVals (r.map Prod.fst)) by have:=hbx3.owf;rw [List.length_map] at this;exact this)
   clear hbx2 hbo hcc h1 h2 hbx3
   go_wp2_with (at_builtin;refine wpList_append_int1 rfl (.tmp 47) (.tmp 49) rfl (w.heap.size+2) (.slice vf1 r.length vf3) rfl r.length (intVals (r.map Prod.fst)) HOF.out (by have:=HRL.out;omega) w2.heap.size q0 rfl HCC.out hsz ?_)
   intro v5 w5 h5 hg5 hn5
   obtain ⟨va5,vc5,rfl⟩:=own_slice h5
   obtain ⟨hG,hbo5⟩:=HBX3.out.growF (by rw [List.length_map];exact h5) hg5 hn5
   have z6:=(ShTB.cells_heap hbo5).2 6
   have y6:=cells_of hbo5 6 _ rfl
   have HG:=hid hG
   clear h5 hg5 hn5 hG hbo5 HBX3 HOF HCC m6 hsz
   go_upto_region 11 with fail
   obtain ⟨W6,hW6⟩:∃ W6,W6=w5.setCell ⟨w.heap.size,6,none⟩ (.slice va5 (r.length+1) vc5):=⟨_,rfl⟩
   rw [← hW6]
   have HBX:Hid (BoxP w x (.slice va1 r.length va3) (.slice va5 (r.length+1) vc5) (r.map Prod.snd) (r.map Prod.fst++[q0]) W6):=by
    show BoxP _ _ _ _ _ _ _
    rw [hW6];exact HG.out
   clear hW6 z6 y6 HG
   have m5:=cells_of HBX.out.box 5 _ rfl
   have hbx4:=HBX.out.on (alloc_below W6 (.cells #[.int .i64 q1] 3))
   have HBX4:=hid hbx4
   have hcc:(W6.alloc (.cells #[.int .i64 q1] 3)).cell? ⟨W6.heap.size,0,none⟩=some (.int .i64 q1):=cell_new _ _ _ _ rfl
   have HCC:=hid hcc
   have hsz:=hbx4.size
   have HOA:=hid (show (W6.alloc (.cells #[.int .i64 q1] 3)).ownsRow (w.heap.size+2) 3 1 (.slice va1 r.length va3) r.length (intVals (r.map Prod.snd)) by have:=hbx4.owa;rw [List.length_map] at this;exact this)
   clear hcc hbx4
   go_wp2_with (at_builtin;refine wpList_append_int1 rfl (.tmp 53) (.tmp 55) rfl (w.heap.size+2) (.slice va1 r.length va3) rfl r.length (intVals (r.map Prod.snd)) HOA.out (by have:=HRL.out;omega) W6.heap.size q1 rfl HCC.out hsz ?_)
   intro v7 w7 h7 hg7 hn7
   obtain ⟨va7,vc7,rfl⟩:=own_slice h7
   obtain ⟨hG,hbo7⟩:=HBX4.out.growA (by rw [List.length_map];exact h7) hg7 hn7
   have z5:=(ShTB.cells_heap hbo7).2 5
   have y5:=cells_of hbo7 5 _ rfl
   have HG:=hid hG
   clear h7 hg7 hn7 hG hbo7 HBX4 HOA HCC m5 hsz HBX
   have hw2:IntKind.i64.wrap (2 * (k:Int)+2)=((2 * (k+1):Nat):Int):=by rw [IntWalk.i64_in _ (by have:=HK.out;omega)];omega
   go_wp2
   go_roundg (gk - 1)
   case measure=>have:=HK.out;omega
   case rel=>exact ⟨k+1,r++[(q0,q1)],_,_,by have:=HK.out;omega,congrArg (Value.int .i64) (by omega),HNX2.out,by rw [List.map_append,List.map_append];exact HG.out⟩
end Go.Proofs.YtbebficgcemkoaaGreatDoor.RdQ
namespace Go.Proofs.YtbebficgcemkoaaGreatDoor.WkM
open Go.RowKit Go.Lib IntO SetP TyM ShM LxM LxP LxJ RwO NumP WrM

inductive Pt where
 | word (s:ByteArray)
 | num (n:Int)
 | mark (c:UInt8) (n:Int)
 | marks (c:UInt8) (l:List Int) (u:Value)
def Pt.val:Pt→Value
 | .word s=>.iface 80 (.string s)
 | .num n=>.iface 139 (.int .i64 n)
 | .mark c n=>.iface 82 (.agg #[.string (mk [c]),.int .i64 n])
 | .marks c _ u=>.iface 138 (.agg #[.string (mk [c]),u])
def Pt.words:Pt→List ByteArray
 | .word s=>[s]
 | .num n=>[nmw n]
 | .mark c n=>[mkw c n]
 | .marks c l _=>l.map (mkw c)
def Pt.At (w:World):Pt→Prop
 | .word _=>True
 | .num n=>I64 n
 | .mark _ n=>I64 n
 | .marks _ l u=>IntsAt w u l∧l.length≤1000∧∀ n∈l,I64 n
theorem Pt.At.below {w w' : World} {p:Pt} (h:p.At w) (hb:Below w.heap.size w w'):p.At w':=by
 cases p with
 | marks c l u=>exact ⟨h.1.below hb,h.2⟩
 | _=>exact h
def wordsAll (l:List Pt):List ByteArray:=l.flatMap Pt.words
theorem wordsAll_append (a b:List Pt):wordsAll (a++b)=wordsAll a++wordsAll b:=by simp [wordsAll]
theorem wordsAll_one (p:Pt):wordsAll [p]=p.words:=by simp [wordsAll]
theorem wordsAll_cons (p:Pt) (l:List Pt):wordsAll (p :: l)=p.words++wordsAll l:=rfl
def vals (l:List Pt):List Value:=l.map Pt.val
def PartsAt (w:World) (v:Value) (l:List Pt):Prop:=ListAt w v (vals l)∧∀ p∈l,p.At w
theorem PartsAt.below {w w' : World} {v:Value} {l:List Pt} (h:PartsAt w v l) (hb:Below w.heap.size w w'):PartsAt w' v l:=⟨h.1.below hb,fun p hp=>(h.2 p hp).below hb⟩
theorem PartsAt.slice {w:World} {v:Value} {l:List Pt} (h:PartsAt w v l):∃ ao cap,v=.slice ao l.length cap∧l.length≤9223372036854775807:=by
 have:=ListAt.slice h.1
 simpa [vals] using this
theorem PartsAt.at {w:World} {ao:Option Addr} {n cap:Nat} {l:List Pt} (h:PartsAt w (.slice ao n cap) l) (k:Nat) (hk:k < l.length):∃ b off,ao=some ⟨b,off,none⟩∧b < w.heap.size∧w.cell? ⟨b,off+k,none⟩=some l[k].val∧l[k].At w:=by
 have h1:=ListAt.at h.1 k (by simpa [vals] using hk)
 obtain ⟨b,off,h2,h3,h4⟩:=h1
 exact ⟨b,off,h2,h3,by simpa [vals] using h4,h.2 _ (List.getElem_mem hk)⟩
theorem parts_lit {w:World} {l:List Pt} {cs:List Value} {n:Nat} (hl:l.length=n) (hn:n≤100) (h:vals l=cs) (ha:∀ p∈l,p.At w) (ty:TypeId):PartsAt (w.alloc (.cells cs.toArray ty)) (.slice (some ⟨w.heap.size,0,none⟩) n n) l :=
 ⟨by rw [h];exact list_of_owns (LxP.ownsRow_lit w cs ty n (by rw [← h];simpa [vals] using hl) (by unfold maxLen;omega)) (by rw [← h];simp [vals];omega),fun p hp=>(ha p hp).below (LxP.alloc_below _ _)⟩

def LineR (ws:List ByteArray) (w:World) (e:Ending) (w' : World):Prop:=∃ u,e=.returned u∧w'.ownsRow w.heap.size 9 1 u ws.length (strs ws)∧Below w.heap.size w w'
theorem mk_cat (a b:List UInt8):mk a++mk b=mk (a++b):=by
 apply ByteArray.ext
 simp [mk]
structure PutS (w0:World) (b:Nat) (u:Value) (ws:List ByteArray) (w:World):Prop where
 box:w.heap[b]?=some (.cells #[u] 74 (0,0))
 own:w.ownsRow w0.heap.size 9 1 u ws.length (strs ws)
 be:Below w0.heap.size w0 w
 lo:w0.heap.size≤b
theorem PutS.on {w0:World} {b:Nat} {u:Value} {ws:List ByteArray} {w w' : World} (h:PutS w0 b u ws w) (hb:Below w.heap.size w w'):PutS w0 b u ws w' :=
 ⟨(hb.block _ (Array.getElem?_eq_some_iff.1 h.box).1).trans h.box,LxP.ownsRow_below h.own hb,h.be.trans (hb.mono h.be.size),h.lo⟩
theorem PutS.start (w:World):PutS w w.heap.size (.slice none 0 0) [] (w.alloc (.cells #[.slice none 0 0] 74)) :=
 ⟨heap_alloc_new _ _,World.ownsRow_nil _ _ _ _,LxP.alloc_below _ _,Nat.le_refl _⟩
def KeepM (w w' : World):Prop:=∀ (j:Nat) (cs:Array Value) (fr:Nat × Nat),w.heap[j]?=some (.cells cs 138 fr)→w'.heap[j]?=some (.cells cs 138 fr)
theorem KeepM.trans {a b c:World} (h:KeepM a b) (k:KeepM b c):KeepM a c:=fun j cs fr e=>k j cs fr (h j cs fr e)
theorem KeepM.below {w w' : World} (hb:Below w.heap.size w w'):KeepM w w':=fun j _ _ e=>(hb.block j (Array.getElem?_eq_some_iff.1 e).1).trans e
theorem PutS.keep {w0:World} {b:Nat} {u v' : Value} {ws:List ByteArray} {w w' : World} (h:PutS w0 b u ws w) (hg:w.grownBy w' u.ownBlock):KeepM w (w'.setCell ⟨b,0,none⟩ v'):=by
 intro j cs fr e
 have hjb:j≠b:=fun ej=>by
  subst ej
  rw [h.box] at e
  simp at e
 have hne:u.ownBlock≠some j:=fun e1=>by
  obtain ⟨cs2,fr2,h3⟩:=own_typed h.own _ e1
  rw [e] at h3
  simp at h3
 exact ((ShTB.grown_set w' b 0 v').block j (by have:=(Array.getElem?_eq_some_iff.1 e).1;have:=hg.size;omega) (fun ee=>hjb (Option.some.inj ee))).trans ((hg.block j (Array.getElem?_eq_some_iff.1 e).1 (fun e=>hne e.symm)).trans e)
theorem PutS.grow {w0:World} {b:Nat} {u v' : Value} {ws ns:List ByteArray} {w w' : World} {n:Nat} (h:PutS w0 b u ws w) (ho:w'.ownsRow w0.heap.size 9 1 v' n (strs ws++strs ns)) (hn:n=ws.length+ns.length) (hg:w.grownBy w' u.ownBlock) :
  w'.heap[b]?=some (.cells #[u] 74 (0,0))∧PutS w0 b v' (ws++ns) (w'.setCell ⟨b,0,none⟩ v'):=by
 subst hn
 have hlo:=h.own.lt
 have hne:u.ownBlock≠some b:=fun e=>by
  obtain ⟨cs,fr,h3⟩:=own_typed h.own _ e
  rw [h.box] at h3
  simp at h3
 have hb:w'.heap[b]?=_:=(hg.block _ (Array.getElem?_eq_some_iff.1 h.box).1 (fun e=>hne e.symm)).trans h.box
 refine ⟨hb,(ShTB.set_heap' (i:=0) v' hb).trans (by simp),?_,?_,h.lo⟩
 ·have:=owns_other ho (ShTB.grown_set w' b 0 v') (ShTB.typed_at hb) (by decide)
  rw [List.length_append]
  simpa [strs] using this
 ·exact (h.be.grown hg h.be.size (fun k hk=>(hlo k hk).1)).setCell (p:=⟨b,0,none⟩) h.lo v'
end Go.Proofs.YtbebficgcemkoaaGreatDoor.WkM
namespace Go.Proofs.YtbebficgcemkoaaGreatDoor.WkA
open Go.RowKit Go.Lib WkM

theorem isW (v:Value) (w:World):(Instr.typeAssert (.iface 80 v) 144 80 true).run Tryz.prog w=.ok (.tuple #[v,.bool true]) w:=by
 simp [Instr.typeAssert,run_underlying Tryz.underlying80]
theorem isN (v:Value) (w:World):(Instr.typeAssert (.iface 139 v) 144 139 true).run Tryz.prog w=.ok (.tuple #[v,.bool true]) w:=by
 simp [Instr.typeAssert,run_underlying Tryz.underlying139]
theorem isM (v:Value) (w:World):(Instr.typeAssert (.iface 82 v) 144 82 true).run Tryz.prog w=.ok (.tuple #[v,.bool true]) w:=by
 simp [Instr.typeAssert,run_underlying Tryz.underlying82]
theorem isL (v:Value) (w:World):(Instr.typeAssert (.iface 138 v) 144 138 true).run Tryz.prog w=.ok (.tuple #[v,.bool true]) w:=by
 simp [Instr.typeAssert,run_underlying Tryz.underlying138]
theorem noW {t:TypeId} (ht:¬ t=80) (v:Value) (w:World):(Instr.typeAssert (.iface t v) 144 80 true).run Tryz.prog w=.ok (.tuple #[.string ⟨#[]⟩,.bool false]) w:=by
 have hz:(zeroValue 80).run Tryz.prog w=.ok (.string ⟨#[]⟩) w:=by kernel_rfl
 simp [Instr.typeAssert,run_underlying Tryz.underlying80,ht,hz]
theorem noN {t:TypeId} (ht:¬ t=139) (v:Value) (w:World):(Instr.typeAssert (.iface t v) 144 139 true).run Tryz.prog w=.ok (.tuple #[.int .i64 0,.bool false]) w:=by
 have hz:(zeroValue 139).run Tryz.prog w=.ok (.int .i64 0) w:=by kernel_rfl
 simp [Instr.typeAssert,run_underlying Tryz.underlying139,ht,hz]
theorem noM {t:TypeId} (ht:¬ t=82) (v:Value) (w:World):(Instr.typeAssert (.iface t v) 144 82 true).run Tryz.prog w=.ok (.tuple #[.agg #[.string ⟨#[]⟩,.int .i64 0],.bool false]) w:=by
 have hz:(zeroValue 82).run Tryz.prog w=.ok (.agg #[.string ⟨#[]⟩,.int .i64 0]) w:=by kernel_rfl
 simp [Instr.typeAssert,run_underlying Tryz.underlying82,ht,hz]
end Go.Proofs.YtbebficgcemkoaaGreatDoor.WkA
