/- Walk over fescueref05.cut: what stands between a byte. Plain facts for comparing lists of lines. Walk over fescueref05.wordsOf: a line's words. Walk over fescueref05.Lines. Walk over lex.Mark. Walks over lex.may, lex.odd and fescueref05.May. Walks over slices.IndexFunc, slices.ContainsFunc and lex.odd: a line that may not be. Walks over lex.join and lex.Join. Walks over lex.Join; fescueref05.May, mayAll, line and Join. Walks over fescueref05.mayAll, line and Join. Walks over fescueref05.line and Join. -/
import Derived.Test.YtbebficgcemkoaaGreatDoorYLxKToWrI
import Derived.Deep.LoopGhost
import Derived.Laws.IdiomStrings
import Derived.Test.YtbebficgcemkoaaGreatDoorYNumEToNumG
import Derived.Laws.BytesArg
set_option maxRecDepth 100000
set_option maxHeartbeats 16000000
namespace Go.Proofs.YtbebficgcemkoaaGreatDoor.LxC
open Go.RowKit Go.Lib LxM LxP LxK LxJ

def StrsR (l:List Word) (w:World) (e:Ending) (w' : World):Prop :=
 ∃ u,e=.returned u∧w'.ownsRow w.heap.size 9 1 u l.length (strs (mkW l))∧Below w.heap.size w w'

def CutI (s:ByteArray) (b:Nat) (k f:Nat) (n:Nat) (xs:List Value):Prop :=
 k≤s.size∧f≤k∧n=(cutP b ((un s).take k)).1.length∧xs=strs (mkW (cutP b ((un s).take k)).1)∧(cutP b ((un s).take k)).2=((un s).drop f).take (k - f)
theorem CutI.start (s:ByteArray) (b:Nat):CutI s b 0 0 0 []:=⟨Nat.zero_le _,Nat.le_refl _,rfl,rfl,rfl⟩
theorem ext_mk (s:ByteArray) (f k:Nat):s.extract f k=mk (((un s).drop f).take (k - f)):=Lib.extract_eq s f k
theorem cut_next {s:ByteArray} {k b:Nat} (h:k < s.size):cutP b ((un s).take (k+1))=cstep b (cutP b ((un s).take k)) s[k]:=by
 obtain ⟨h2,e⟩:=at_byte h
 rw [List.take_succ_eq_append_getElem h2,cutP_snoc,e]
theorem CutI.hit {s:ByteArray} {b k f n:Nat} {xs:List Value} (h:CutI s b k f n xs) (hk:k < s.size) (hb:s[k].toNat=b):CutI s b (k+1) (k+1) (n+1) (xs++[.string (s.extract f k)]):=by
 obtain ⟨h1,h2,h3,h4,h5⟩:=h
 have e:cutP b ((un s).take (k+1))=((cutP b ((un s).take k)).1++[(cutP b ((un s).take k)).2],[]):=by
  rw [cut_next hk];unfold cstep;rw [if_pos hb]
 refine ⟨by omega,Nat.le_refl _,?_,?_,?_⟩<;>rw [e]
 ·simp [h3]
 ·rw [h4,h5,ext_mk];simp
 ·simp
theorem CutI.miss {s:ByteArray} {b k f n:Nat} {xs:List Value} (h:CutI s b k f n xs) (hk:k < s.size) (hb:s[k].toNat≠b):CutI s b (k+1) f n xs:=by
 obtain ⟨h1,h2,h3,h4,h5⟩:=h
 obtain ⟨h2',e2⟩:=at_byte hk
 have e:cutP b ((un s).take (k+1))=((cutP b ((un s).take k)).1,(cutP b ((un s).take k)).2++[s[k]]):=by
  rw [cut_next hk];unfold cstep;rw [if_neg hb]
 refine ⟨by omega,by omega,?_,?_,?_⟩<;>rw [e]
 ·exact h3
 ·exact h4
 ·have e3:f+(k - f)=k:=by omega
  rw [h5,show k+1 - f=(k - f)+1 by omega,List.take_succ_eq_append_getElem (by rw [List.length_drop,un_len];omega),List.getElem_drop]
  simp only [e3,e2]
theorem CutI.end {s:ByteArray} {b f n:Nat} {xs:List Value} (h:CutI s b s.size f n xs):n+1=(cutS b (un s)).length∧xs++[.string (s.extract f s.size)]=strs (mkW (cutS b (un s))):=by
 obtain ⟨h1,h2,h3,h4,h5⟩:=h
 rw [List.take_of_length_le (by rw [un_len];exact Nat.le_refl _)] at h3 h4 h5
 unfold cutS
 rw [h3,h4,h5,ext_mk]
 simp
theorem CutI.le {s:ByteArray} {b k f n:Nat} {xs:List Value} (h:CutI s b k f n xs):n≤k:=by
 have H:∀ l:List UInt8,(cutP b l).1.length≤l.length:=by
  refine snoc_ind (by simp [cutP]) fun l c ih=>?_
  rw [cutP_snoc,List.length_append]
  unfold cstep
  split
  ·simp;omega
  ·simp;omega
 have:=H ((un s).take k)
 rw [List.length_take] at this
 rw [h.2.2.1];omega

theorem cut_calls (s:ByteArray) (hs:s.size≤16384) (b:Nat) (w:World) :
  Calls Tryz.prog 110 #[.string s,.int .u8 b] w (StrsR (cutS b (un s)) w):=by
 go_enter Tryz.func110,Tryz.ntmps110
 go_wp2
 go_loopg [5,6,7] s.size (fun gk u fv iv wr=>∃ (k f n:Nat) (xs:List Value),k+gk=s.size∧iv=.int .i64 k∧fv=.int .i64 f∧Hid (CutI s b k f n xs)∧Hid (wr.ownsRow w.heap.size 9 1 u n xs)∧Below w.heap.size w wr)
 case atStart=>exact ⟨0,0,0,[],by omega,rfl,rfl,CutI.start s b,World.ownsRow_nil _ _ _ _,Below.refl _ _⟩
 case round =>
  obtain ⟨k,f,n,xs,hk,rfl,rfl,HI,HO,hbe⟩:=hrel
  have HK:=hid hk
  have hfk:=HI.out.2.1
  have hnk:=HI.out.le
  by_cases hlt:k < s.size
  ·have h255:=u8_le s[k]
   clear hk
   by_cases hc:s[k].toNat=b
   ·have HN:=hid (HI.out.hit hlt hc)
    have hcc:((s[k].toNat:Int) == (b:Int))=true:=by simp;omega
    have hO1:Hid ((wr.alloc (.cells #[.string (s.extract f k)] 9)).ownsRow w.heap.size 9 1 u5 n xs):=HO.out.alloc _
    have HCE:Hid ((wr.alloc (.cells #[.string (s.extract f k)] 9)).cell? ⟨wr.heap.size,0,none⟩=some (.string (s.extract f k))):=by show _=_;simp
    have hltw:wr.heap.size < (wr.alloc (.cells #[.string (s.extract f k)] 9)).heap.size:=by simp
    have HB1:=hid (hbe.alloc hbe.size (.cells #[.string (s.extract f k)] 9))
    have hsz:=HB1.out.size
    clear hc
    go_wp2_with (at_builtin;refine wpList_append_one rfl (.tmp 19) (.tmp 24) elemS rfl w.heap.size u5 rfl n xs hO1.out (by omega) wr.heap.size (.string (s.extract f k)) rfl HCE.out hltw rfl hsz ?_)
    intro v2 w2 hown2 hgr
    have HO2:=hid hown2
    have HB2:=hid (own_grown HB1.out hO1.out hgr hsz)
    clear hown2 hgr hO1 HCE HB1
    go_wp2
    go_roundg (gk - 1)
    case measure=>have:=HK.out;omega
    case rel=>exact ⟨k+1,k+1,n+1,_,by have:=HK.out;omega,by go_num,by go_num,HN,HO2,HB2.out⟩
   ·have HN:=hid (HI.out.miss hlt hc)
    have hcc:((s[k].toNat:Int) == (b:Int))=false:=by simp;omega
    clear hc
    go_wp2
    go_roundg (gk - 1)
    case measure=>have:=HK.out;omega
    case rel=>exact ⟨k+1,f,n,xs,by have:=HK.out;omega,by go_num,rfl,HN,HO,hbe⟩
  ·obtain rfl:k=s.size:=by omega
   have HE:=hid HI.out.end
   have hO1:Hid ((wr.alloc (.cells #[.string (s.extract f s.size)] 9)).ownsRow w.heap.size 9 1 u5 n xs):=HO.out.alloc _
   have HCE:Hid ((wr.alloc (.cells #[.string (s.extract f s.size)] 9)).cell? ⟨wr.heap.size,0,none⟩=some (.string (s.extract f s.size))):=by show _=_;simp
   have hltw:wr.heap.size < (wr.alloc (.cells #[.string (s.extract f s.size)] 9)).heap.size:=by simp
   have HB1:=hid (hbe.alloc hbe.size (.cells #[.string (s.extract f s.size)] 9))
   have hsz:=HB1.out.size
   clear hk hlt
   go_wp2_with (at_builtin;refine wpList_append_one rfl (.tmp 28) (.tmp 32) elemS rfl w.heap.size u5 rfl n xs hO1.out (by omega) wr.heap.size (.string (s.extract f s.size)) rfl HCE.out hltw rfl hsz ?_)
   intro v2 w2 hown2 hgr
   rw [HE.out.2,HE.out.1] at hown2
   have HO2:=hid hown2
   have HB2:=hid (own_grown HB1.out hO1.out hgr hsz)
   clear hown2 hgr hO1 HCE HB1
   go_wp2
   go_ret
   exact ⟨_,rfl,HO2.out,HB2.out⟩
end Go.Proofs.YtbebficgcemkoaaGreatDoor.LxC
namespace Go.Proofs.YtbebficgcemkoaaGreatDoor.LxS
open Go.RowKit Go.Lib LxM LxP LxK LxJ

def BoolR (b:Bool) (w:World) (e:Ending) (w' : World):Prop:=e=.returned (.bool b)∧Below w.heap.size w w'
end Go.Proofs.YtbebficgcemkoaaGreatDoor.LxS
namespace Go.Proofs.YtbebficgcemkoaaGreatDoor.LxW
open Go.RowKit Go.Lib LxM LxP LxK LxJ LxC

def BytesAt (w:World) (g:Nat) (l:List UInt8):Prop:=∀ j (h:j < l.length),w.cell? ⟨g,j,none⟩=some (.int .u8 (l[j].toNat:Int))∧w.frozen? ⟨g,j,none⟩=false
theorem BytesAt.set {w:World} {g:Nat} {l:List UInt8} (h:BytesAt w g l) (i:Nat) (hi:i < l.length) (c:UInt8) (n:Int) (hn:n=(c.toNat:Int)):BytesAt (w.setCell ⟨g,i,none⟩ (.int .u8 n)) g (l.set i c):=by
 subst hn
 intro j hj
 rw [List.length_set] at hj
 rw [World.frozen?_setCell]
 refine ⟨?_,(h j hj).2⟩
 by_cases e:i=j
 ·subst e
  rw [World.cell?_setCell_same w _ _ (h i hi).1]
  simp
 ·rw [World.cell?_setCell_other w _ _ _ (by simp),(h j hj).1]
  simp [e]
theorem BytesAt.back {w:World} {g:Nat} {l:List UInt8} (h:BytesAt w g l) (cap:Nat) :
  (convert 87 9 (.slice (some ⟨g,0,none⟩) l.length cap)).run Tryz.prog w=.ok (.string ⟨l.toArray⟩) w :=
 run_convert_bytes_back (P:=Tryz.prog) w 87 9 5 ⟨g,0,none⟩ cap l Tryz.underlying87 Tryz.underlying5 Tryz.underlying9 (fun j hj=>by
  rw [show (⟨g,0,none⟩:Addr).add j=⟨g,j,none⟩ by simp [Addr.add];omega]
  exact (h j hj).1)

def turn (l:List UInt8) (i:Nat):List UInt8:=(l.take i).map spB++l.drop i
theorem turn_zero (l:List UInt8):turn l 0=l:=rfl
theorem turn_all (l:List UInt8):turn l l.length=l.map spB:=by simp [turn]
theorem turn_length (l:List UInt8) (i:Nat):(turn l i).length=l.length:=by simp [turn];omega
theorem turn_at {l:List UInt8} {i:Nat} (h:i < l.length):(turn l i)[i]'(by rw [turn_length];exact h)=l[i]:=by
 unfold turn
 rw [List.getElem_append_right (by simp;omega)]
 simp [List.length_take,Nat.min_eq_left (Nat.le_of_lt h)]
theorem turn_next {l:List UInt8} {i:Nat} (h:i < l.length):turn l (i+1)=(turn l i).set i (spB l[i]):=by
 unfold turn
 rw [List.take_succ_eq_append_getElem h,List.set_append_right _ _ (by simp;omega)]
 simp only [List.length_map,List.length_take,Nat.min_eq_left (Nat.le_of_lt h),Nat.sub_self,List.map_append,List.map_cons,List.map_nil]
 conv=>rhs;rw [List.drop_eq_getElem_cons h,List.set_cons_zero]
 simp
theorem turn_same {l:List UInt8} {i:Nat} (h:i < l.length) (hs:spB l[i]=l[i]):turn l (i+1)=turn l i:=by
 rw [turn_next h,hs]
 have h2:i < (turn l i).length:=by rw [turn_length];exact h
 have e:=turn_at h
 have e2:(turn l i).set i ((turn l i)[i])=turn l i:=List.set_getElem_self h2
 rw [e] at e2
 exact e2

theorem keep_take {l:List Word} {k:Nat} (h:k < l.length):(l.take (k+1)).filter some1=if l[k]=[] then (l.take k).filter some1 else (l.take k).filter some1++[l[k]]:=by
 rw [List.take_succ_eq_append_getElem h,filter_push]
 rfl
theorem mk_ne {y:Word} (h:y≠[]):(mk y).toList.isEmpty=false:=by
 rw [Lib.toList_data]
 show (un (mk y)).isEmpty=false
 rw [un_mk]
 cases y with
 | nil=>exact absurd rfl h
 | cons a t=>rfl
theorem own_strs {w:World} {B:Nat} {u:Value} {n:Nat} {l:List Word} (h:w.ownsRow B 9 1 u n (strs (mkW l))) (hl:l.length≤1000000):StrsAt w u (mkW l):=list_of_owns h (by simp;omega)
theorem cut_small (b:Nat):∀ l:List UInt8,(∀ x∈(cutP b l).1,x.length≤l.length)∧(cutP b l).2.length≤l.length∧(cutP b l).1.length≤l.length:=by
 refine snoc_ind ⟨by simp [cutP],by simp [cutP],by simp [cutP]⟩ fun l c ih=>?_
 obtain ⟨h1,h2,h3⟩:=ih
 rw [cutP_snoc,List.length_append]
 unfold cstep
 split
 ·refine ⟨fun x hx=>?_,by simp,by simp;omega⟩
  simp only [List.mem_append,List.mem_singleton] at hx
  rcases hx with hx | rfl
  ·have:=h1 x hx;omega
  ·omega
 ·exact ⟨fun x hx=>by have:=h1 x hx;omega,by simp;omega,by simp only;omega⟩
theorem cutS_small {b:Nat} {l:List UInt8} : (∀ x∈cutS b l,x.length≤l.length)∧(cutS b l).length≤l.length+1:=by
 obtain ⟨h1,h2,h3⟩:=cut_small b l
 unfold cutS
 refine ⟨fun x hx=>?_,by simp;omega⟩
 rcases List.mem_append.1 hx with hx | hx
 ·exact h1 x hx
 ·rw [List.mem_singleton.1 hx];exact h2
theorem to_bytes (w:World) (x:Word):∃ w2 cap,(convert 9 87 (.string (mk x))).run Tryz.prog w=.ok (.slice (some ⟨w.heap.size,0,none⟩) x.length cap) w2∧BytesAt w2 w.heap.size x∧Below w.heap.size w w2:=by
 have h:=run_bytes_of_string (P:=Tryz.prog) w 9 87 5 (mk x) Tryz.underlying9 Tryz.underlying87 Tryz.underlying5
 rw [mk_size] at h
 refine ⟨_,_,h,fun j hj=>?_,?_⟩
 ·generalize grownCap w x.length 0 5=cap
  have hs:j < (mk x).data.size:=by simpa [mk] using hj
  have e:=bytesRow_at (mk x) cap j hs
  have hlen:x.length≤(bytesRow (mk x) cap).size:=by
   have:=mk_size x
   unfold bytesRow
   simp [mk]
  refine ⟨?_,?_⟩
  ·have:=World.cell?_alloc_mark w.drew (bytesRow (mk x) cap) 5 ((bytesRow (mk x) cap).size,(bytesRow (mk x) cap).size+1) j
   rw [e] at this
   refine this.trans ?_
   simp [mk]
  ·have:=World.frozen?_alloc_mark w.drew (bytesRow (mk x) cap) 5 (bytesRow (mk x) cap).size ((bytesRow (mk x) cap).size+1) j
   refine this.trans ?_
   simp
   omega
 ·exact (Below.refl _ _).drew.alloc (Nat.le_refl _) _

theorem q18x1 {P:Prop} (h:P:=by
 go_wp2
 go_roundg (gk - 1)
 case measure=>have:=HI.out;omega
 case rel=>exact ⟨i+1,by have:=HI.out;omega,by go_num,HS,HBS.out⟩):P:=h
theorem wordsOf_calls (s:ByteArray) (hs:s.size≤16384) (w:World):Calls Tryz.prog 111 #[.string s] w (StrsR (wordsB (un s)) w):=by
 have HC:=hid (cut_calls s hs 35 w)
 obtain ⟨x,t,hx⟩:∃ x t,cutS 35 (un s)=x :: t:=by
  cases h:cutS 35 (un s) with
  | nil=>have:=cutS_ne 35 (un s);rw [h] at this;simp at this
  | cons a t=>exact ⟨a,t,rfl⟩
 have hxl:x.length≤s.size:=by
  have:=(cutS_small (b:=35) (l:=un s)).1 x (by rw [hx];simp)
  rwa [un_len] at this
 have htl:t.length≤s.size:=by
  have:=(cutS_small (b:=35) (l:=un s)).2
  rw [un_len,hx] at this
  simpa using this
 have href:wordsB (un s)=(cutS 32 (x.map spB)).filter some1:=by rw [← refW_eq];unfold refW;rw [hx];rfl
 rw [href]
 rw [hx] at HC
 clear hx href
 generalize hD:cutS 32 (x.map spB)=D at *
 have HC2:=hid (fun wx=>cut_calls (mk (x.map spB)) (by rw [mk_size];simp;omega) 32 wx)
 rw [un_mk,hD] at HC2
 have hDs:=(cutS_small (b:=32) (l:=x.map spB))
 rw [hD,List.length_map] at hDs
 have hDl:=hDs.2
 clear hD hDs
 go_enter Tryz.func111,Tryz.ntmps111
 go_wp2_with fail
 refine HC.out.mono ?_
 rintro e w1 ⟨u,rfl,hown,hb1⟩
 have HSA:=hid (own_strs hown (by simp;omega))
 obtain ⟨ua,uc,rfl,hul⟩:=HSA.out.slice
 obtain ⟨g,o,rfl,hg,hc⟩:=HSA.out.at 0 (by simp)
 simp only [List.map_cons,List.getElem_cons_zero,Nat.add_zero] at hc
 obtain ⟨w2,cap,hcv,hB,hb2⟩:=to_bytes w1 x
 have HB2:=hid hB
 have hbe2:=hb1.trans (hb2.mono hb1.size)
 have HX:Hid (BytesAt w2 w1.heap.size (turn x 0)):=by rw [turn_zero];exact HB2
 have hgs:w.heap.size≤w1.heap.size:=hb1.size
 simp only [List.length_map,List.length_cons] at hul
 clear hown hB
 generalize hn:x.length=n at *
 have HN:=hid hn
 clear hn
 clear HC
 go_wp2
 clear hcv hc
 go_loopg [4] n (fun gk iv wr=>∃ i:Nat,i+gk=n∧iv=.int .i64 i∧Hid (BytesAt wr w1.heap.size (turn x i))∧Below w.heap.size w wr)
 case atStart=>exact ⟨0,by omega,rfl,HX,hbe2⟩
 case round =>
  obtain ⟨i,hi,rfl,HBY,hbe⟩:=hrel
  have HI:=hid hi
  by_cases hlt:i < n
  ·have hix:i < x.length:=by rw [HN.out];exact hlt
   obtain ⟨hcell,hfz⟩:=HBY.out i (by rw [turn_length];exact hix)
   rw [turn_at hix] at hcell
   have h255:=u8_le x[i]
   have HSET:=hid (fun c=>turn_next hix ▸ HBY.out.set i (by rw [turn_length];exact hix) (spB x[i]) c)
   have HSAME:=hid (fun h=>(turn_same hix h) ▸ HBY.out)
   have HBS:=hid (hbe.setCell (p:=⟨w1.heap.size,i,none⟩) hgs (.int .u8 32))
   clear hi
   by_cases h9:x[i].toNat=9
   ·have HS:=hid (HSET.out 32 (by simp [spB,h9]))
    have e9:((x[i].toNat:Int) == 9)=true:=by simp;omega
    clear HSET HSAME h9
    exact q18x1
   by_cases h13:x[i].toNat=13
   ·have HS:=hid (HSET.out 32 (by simp [spB,h13]))
    have e9:((x[i].toNat:Int) == 9)=false:=by simp;omega
    have e13:((x[i].toNat:Int) == 13)=true:=by simp;omega
    clear HSET HSAME h13 h9
    exact q18x1
   ·have HS:=hid (HSAME.out (by simp [spB,h9,h13]))
    have e9:((x[i].toNat:Int) == 9)=false:=by simp;omega
    have e13:((x[i].toNat:Int) == 13)=false:=by simp;omega
    clear HSET HSAME h13 h9
    go_wp2
    go_roundg (gk - 1)
    case measure=>have:=HI.out;omega
    case rel=>exact ⟨i+1,by have:=HI.out;omega,by go_num,HS,hbe⟩
  ·obtain rfl:i=n:=by omega
   have hbk:=HBY.out.back cap
   rw [turn_length,HN.out] at hbk
   have hmk:(⟨(turn x i).toArray⟩:ByteArray)=mk (x.map spB):=by rw [← turn_all,HN.out];rfl
   rw [hmk] at hbk
   have HCW:=hid (HC2.out wr)
   clear hi hlt hmk HBY HI HX HB2 HC2
   go_wp2_with fail
   refine HCW.out.mono ?_
   rintro e w3 ⟨v,rfl,hown,hb3⟩
   have HSD:=hid (own_strs hown (by omega))
   have hbe3:=hbe.trans (hb3.mono hbe.size)
   obtain ⟨va,vc,rfl,hvl⟩:=HSD.out.slice
   simp only [List.length_map] at hvl ⊢
   clear hown hb3 HCW hbk
   have HB3:=hid hbe3
   go_wp2
   clear hbe hb1 hb2 hbe2
   go_loopg [5,7] D.length (fun gk u iv wx=>∃ k:Nat,k+gk=D.length∧iv=.int .i64 k∧Hid (wx.ownsRow w3.heap.size 9 1 u ((D.take k).filter some1).length (strs (mkW ((D.take k).filter some1))))∧Below w3.heap.size w3 wx)
   case atStart=>exact ⟨0,by omega,rfl,World.ownsRow_nil _ _ _ _,Below.refl _ _⟩
   case round =>
    obtain ⟨k,hk,rfl,HO,hbx⟩:=hrel
    have HK:=hid hk
    by_cases hlt:k < D.length
    ·obtain ⟨b,o,rfl,_,hc⟩:=(HSD.out.below hbx).at k (by simpa using hlt)
     simp only [List.getElem_map] at hc
     have HT:=hid (keep_take hlt)
     have hfl:((D.take k).filter some1).length≤20000:=by
      have h1:=List.length_filter_le some1 (D.take k)
      rw [List.length_take] at h1
      omega
     generalize (D.take k).filter some1=F at *
     generalize D[k]=y at *
     clear hk
     by_cases hy:y=[]
     ·have HT2:Hid ((D.take (k+1)).filter some1=F):=by show _=_;rw [HT.out,if_pos hy]
      have hmy:mk y=⟨#[]⟩:=by rw [hy];rfl
      rw [hmy] at hc
      clear hy hmy HT
      go_wp2
      go_roundg (gk - 1)
      case measure=>have:=HK.out;omega
      case rel=>exact ⟨k+1,by have:=HK.out;omega,by go_num,by rw [HT2.out];exact HO,hbx⟩
     ·have HT2:Hid ((D.take (k+1)).filter some1=F++[y]):=by show _=_;rw [HT.out,if_neg hy]
      have HSN:Hid (strs (mkW (F++[y]))=strs (mkW F)++[.string (mk y)]):=by show _=_;simp
      have hze:=mk_ne hy
      generalize mk y=z at *
      generalize strs (mkW F)=xs at *
      generalize hm:F.length=m at *
      have HM:=hid hm
      clear hm
      have hO1:Hid ((wr.alloc (.cells #[.string z] 9)).ownsRow w3.heap.size 9 1 u5 m xs):=HO.out.alloc _
      have HCE:Hid ((wr.alloc (.cells #[.string z] 9)).cell? ⟨wr.heap.size,0,none⟩=some (.string z)):=by show _=_;simp
      have hltw:wr.heap.size < (wr.alloc (.cells #[.string z] 9)).heap.size:=by simp
      have HB1:=hid (hbx.alloc hbx.size (.cells #[.string z] 9))
      have hsz:=HB1.out.size
      clear HT hy
      go_wp2_with (at_builtin;refine wpList_append_one rfl (.tmp 48) (.tmp 53) elemS rfl w3.heap.size u5 rfl m xs hO1.out (by omega) wr.heap.size (.string z) rfl HCE.out hltw rfl hsz ?_)
      intro v2 w2 hown2 hgr
      have HO2:Hid (w2.ownsRow w3.heap.size 9 1 v2 (F++[y]).length (strs (mkW (F++[y])))):=by
       show World.ownsRow _ _ _ _ _ _ _
       rw [HSN.out,List.length_append,HM.out]
       exact hown2
      have HB5:=hid (own_grown HB1.out hO1.out hgr hsz)
      clear hown2 hgr hO1 HCE HB1
      go_wp2
      go_roundg (gk - 1)
      case measure=>have:=HK.out;omega
      case rel=>exact ⟨k+1,by have:=HK.out;omega,by go_num,by rw [HT2.out];exact HO2,HB5.out⟩
    ·obtain rfl:k=D.length:=by omega
     rw [List.take_length] at HO
     have HOB:=hid (owns_base HO.out HB3.out.size)
     have HBF:=hid (HB3.out.trans (hbx.mono HB3.out.size))
     clear hk
     go_wp2
     go_ret
     exact ⟨_,rfl,HOB.out,HBF.out⟩
end Go.Proofs.YtbebficgcemkoaaGreatDoor.LxW
namespace Go.Proofs.YtbebficgcemkoaaGreatDoor.LxQ
open Go.RowKit Go.Lib LxM LxP LxK LxJ LxC LxW

def QI (w:World) (D:List Word) (k:Nat) (u:Value) (r:List Rw) (wr:World):Prop :=
 r.map Prod.fst=mkL (((D.take k).map wordsB).filter full)∧OwnL w.heap.size u r wr∧Below w.heap.size w wr∧∀ x∈(D.take k).map wordsB,x.length≤64
theorem QI.len {w wr:World} {D:List Word} {k:Nat} {u:Value} {r:List Rw} (h:QI w D k u r wr):r.length≤D.length:=by
 have h1:r.length=(((D.take k).map wordsB).filter full).length:=by
  have:=congrArg List.length h.1
  simpa [mkL] using this
 have h2:=List.length_filter_le full ((D.take k).map wordsB)
 rw [List.length_map,List.length_take] at h2
 omega
theorem q_take {D:List Word} {k:Nat} (h:k < D.length):(D.take (k+1)).map wordsB=(D.take k).map wordsB++[wordsB D[k]]:=by
 rw [List.take_succ_eq_append_getElem h,List.map_append];rfl
theorem QI.short {w wr:World} {D:List Word} {k:Nat} {u:Value} {r:List Rw} (h:QI w D k u r wr) (hk:k < D.length) (hl:(wordsB D[k]).length≤64):∀ x∈(D.take (k+1)).map wordsB,x.length≤64:=by
 rw [q_take hk]
 intro x hx
 rcases List.mem_append.1 hx with hx | hx
 ·exact h.2.2.2 x hx
 ·rw [List.mem_singleton.1 hx];exact hl
theorem QI.empty {w wr w1:World} {D:List Word} {k:Nat} {u:Value} {r:List Rw} (h:QI w D k u r wr) (hk:k < D.length) (hw:wordsB D[k]=[]) (hb:Below wr.heap.size wr w1):QI w D (k+1) u r w1:=by
 refine ⟨?_,OwnL.below h.2.1 hb,h.2.2.1.trans (hb.mono h.2.2.1.size),h.short hk (by rw [hw];simp)⟩
 rw [h.1,q_take hk,hw,List.filter_append]
 simp [full]
theorem QI.full {w wr w1 w2:World} {D:List Word} {k:Nat} {u u2 v:Value} {r:List Rw} {W:List Word} (h:QI w D k u r wr) (hk:k < D.length) (hw:wordsB D[k]=W) (hne:W≠[]) (hl:W.length≤64) (hb:Below wr.heap.size wr w1)
  (hv:w1.ownsRow wr.heap.size 9 1 v W.length (strs (mkW W))) (hg:w1.grownBy w2 u.ownBlock) (ho:w2.ownsRow w.heap.size 74 1 u2 (r.length+1) (r.map Prod.snd++[v])):QI w D (k+1) u2 (r++[(mkW W,v)]) w2:=by
 have hO:=OwnL.below h.2.1 hb
 have hbw:=h.2.2.1.trans (hb.mono h.2.2.1.size)
 refine ⟨?_,OwnL.snoc hO (owns_base (by simpa using hv) h.2.2.1.size) hg ho,own_grown hbw hO.1 hg hbw.size,h.short hk (by rw [hw];exact hl)⟩
 rw [List.map_append,h.1,q_take hk,hw,List.filter_append]
 have:List.filter LxM.full [W]=[W]:=by
  cases W with
  | nil=>exact absurd rfl hne
  | cons a t=>rfl
 rw [this]
 simp
theorem QI.long {w wr:World} {s:ByteArray} {k:Nat} {u:Value} {r:List Rw} (_:QI w (cutS 10 (un s)) k u r wr) (hk:k < (cutS 10 (un s)).length) (hl:64 < (wordsB (cutS 10 (un s))[k]).length):lnE (un s)=4:=by
 refine lnE_long (x:=wordsB (cutS 10 (un s))[k]) ?_ hl
 rw [allW_cut]
 exact List.mem_map_of_mem (List.getElem_mem hk)
theorem QI.end {w w1 wr:World} {s:ByteArray} {u:Value} {r:List Rw} (h:QI w1 (cutS 10 (un s)) (cutS 10 (un s)).length u r wr) (hb:Below w.heap.size w w1) (hs:s.size≤16384):LnR s w (.returned (.tuple #[u,.int .i64 0])) wr:=by
 obtain ⟨h1,h2,h3,h4⟩:=h
 replace h2:=h2.base hb.size
 replace h3:=hb.trans (h3.mono hb.size)
 rw [List.take_length,← allW_cut] at h1 h4
 have hE:lnE (un s)=0:=lnE_ok (by rw [un_len];exact hs) h4
 exact ⟨u,r,by rw [hE],by rw [h1,lnT_ok hE],h2,h3⟩

theorem linesR_calls (s:ByteArray) (w:World):Calls Tryz.prog 56 #[.string s] w (LnR s w):=by
 by_cases hbig:16384 < s.size
 ·have HE:=hid (lnE_big (s:=un s) (by rw [un_len];exact hbig))
  go_enter Tryz.func56,Tryz.ntmps56
  go_wp2
  go_ret2
  exact LnR.many HE.out (Below.refl _ _)
 ·have hs:s.size≤16384:=by omega
  have HC:=hid (cut_calls s hs 10 w)
  have HEND:=hid (fun (w1:World) (hb:Below w.heap.size w w1) (u:Value) (r:List Rw) (wr:World) (h:QI w1 (cutS 10 (un s)) (cutS 10 (un s)).length u r wr)=>h.end hb hs)
  have HLONG:=hid (fun (w1:World) (u:Value) (r:List Rw) (wr:World) (k:Nat) (h:QI w1 (cutS 10 (un s)) k u r wr) hk hl=>h.long hk hl)
  obtain ⟨hds,hdl⟩:=cutS_small (b:=10) (l:=un s)
  rw [un_len] at hds hdl
  generalize cutS 10 (un s)=D at *
  have HDS:=hid hds
  clear hds
  go_enter Tryz.func56,Tryz.ntmps56
  go_wp2_with fail
  refine HC.out.mono ?_
  rintro e w1 ⟨v,rfl,hown,hb1⟩
  have HSD:=hid (own_strs hown (by omega))
  obtain ⟨va,vc,rfl,hvl⟩:=HSD.out.slice
  simp only [List.length_map] at hvl ⊢
  have HQ:Hid (QI w1 D 0 (.slice none 0 0) [] w1):=⟨rfl,OwnL.nil _ _,Below.refl _ _,by simp⟩
  have HB1:=hid hb1
  clear hown HC
  go_wp2
  go_loopg [4,6,7] D.length (fun gk u iv _wv wr=>∃ (k:Nat) (r:List Rw),k+gk=D.length∧iv=.int .i64 k∧Hid (QI w1 D k u r wr))
  case atStart=>exact ⟨0,[],by omega,rfl,HQ⟩
  case round =>
   obtain ⟨k,r,hk,rfl,HI⟩:=hrel
   have hbx:=HI.out.2.2.1
   have HK:=hid hk
   by_cases hlt:k < D.length
   ·obtain ⟨b,o,rfl,_,hc⟩:=(HSD.out.below hbx).at k (by simpa using hlt)
    simp only [List.getElem_map] at hc
    have hxl:=HDS.out _ (List.getElem_mem hlt)
    have HW:=hid (wordsOf_calls (mk D[k]) (by rw [mk_size];omega) wr)
    rw [un_mk] at HW
    have hrl:=HI.out.len
    have HL:=hid (HLONG.out _ _ r wr k HI.out hlt)
    have HEM:=hid (fun h w1=>HI.out.empty (w1:=w1) hlt h)
    have HFU:=hid (fun (w1 w2:World) (u2 v:Value) (W:List Word) h=>HI.out.full (w1:=w1) (w2:=w2) (u2:=u2) (v:=v) (W:=W) hlt h)
    have HOL:=hid HI.out.2.1
    generalize D[k]=y at *
    generalize hW:wordsB y=W at *
    have HWW:=hid hW
    clear hk hW hxl
    go_wp2_with fail
    refine HW.out.mono ?_
    rintro e w2 ⟨v,rfl,hv,hb2⟩
    obtain ⟨va2,vc2,rfl⟩:=own_slice hv
    have HV:=hid hv
    have HB2:=hid hb2
    have hbx2:=hbx.trans (hb2.mono hbx.size)
    have hbw2:=HB1.out.trans (hbx2.mono HB1.out.size)
    clear hv hb2 HW hbx hc
    by_cases h64:64 < W.length
    ·have HE:=hid (HL.out h64)
     clear HL HEM HFU HSD HQ
     generalize W.length=n at *
     go_wp2
     go_ret2
     exact LnR.many HE.out hbw2
    by_cases h0:W=[]
    ·have HN:=hid (HEM.out h0 w2 HB2.out)
     have hz:W.length=0:=by rw [h0];rfl
     clear HL HEM HFU h0
     generalize W.length=n at *
     subst hz
     go_wp2
     go_roundg (gk - 1)
     case measure=>have:=HK.out;omega
     case rel=>exact ⟨k+1,r,by have:=HK.out;omega,by go_num,HN⟩
    ·have HN:=hid (fun w3 u3=>HFU.out (w2.alloc (.cells #[.slice va2 W.length vc2] 74)) w3 u3 (.slice va2 W.length vc2) W rfl h0 (by omega) (HB2.out.alloc HB2.out.size _) (HV.out.alloc _))
     have hpos:0 < W.length:=by
      cases W with
      | nil=>exact absurd rfl h0
      | cons a t=>simp
     have hO1:Hid ((w2.alloc (.cells #[.slice va2 W.length vc2] 74)).ownsRow w1.heap.size 74 1 u4 r.length (r.map Prod.snd)):=(ownsRow_below HOL.out.1 HB2.out).alloc _
     clear HL HEM HFU h0 HV HOL
     generalize W.length=n at *
     have HCE:Hid ((w2.alloc (.cells #[.slice va2 n vc2] 74)).cell? ⟨w2.heap.size,0,none⟩=some (.slice va2 n vc2)):=by show _=_;simp
     have hltw:w2.heap.size < (w2.alloc (.cells #[.slice va2 n vc2] 74)).heap.size:=by simp
     have hsz:=(hbx2.alloc hbx2.size (.cells #[.slice va2 n vc2] 74)).size
     go_wp2_with (at_builtin;refine wpList_append_one rfl (.tmp 30) (.tmp 32) elemL rfl w1.heap.size u4 rfl r.length (r.map Prod.snd) hO1.out (by omega) w2.heap.size (.slice va2 n vc2) rfl HCE.out hltw rfl hsz ?_)
     intro u3 w3 hown3 hgr
     have HQ3:=hid (HN.out w3 u3 hgr hown3)
     clear hown3 hgr hO1 HCE HN
     go_wp2
     go_roundg (gk - 1)
     case measure=>have:=HK.out;omega
     case rel=>exact ⟨k+1,_,by have:=HK.out;omega,by go_num,HQ3⟩
   ·obtain rfl:k=D.length:=by omega
    have HE:=hid (HEND.out _ HB1.out _ _ _ HI.out)
    clear hk HEND HLONG HDS HI HQ
    go_wp2
    go_ret2
    exact HE.out
end Go.Proofs.YtbebficgcemkoaaGreatDoor.LxQ
namespace Go.Proofs.YtbebficgcemkoaaGreatDoor.LxY
open Go.RowKit Go.Lib LxM LxP LxK LxJ NumP NumQ NumR NumG

theorem mark_calls (s:ByteArray) (hs:s.size≤9223372036854775807) (c:UInt8) (w:World) :
  Calls Tryz.prog 154 #[.string s,.int .u8 (c.toNat:Int)] w (MkR s c w):=by
 have h255:=u8_le c
 by_cases h0:s.size=0
 ·have HE:=hid (mkN_nil (c:=c) h0)
  have hse:s=⟨#[]⟩:=by
   apply ByteArray.ext
   exact Array.eq_empty_of_size_eq_zero h0
  subst hse
  go_enter Tryz.func154,Tryz.ntmps154
  go_wp2
  go_ret2
  exact ⟨by rw [HE.out];rfl,Below.refl _ _⟩
 ·have hpos:0 < s.size:=by omega
  have hne:s.toList.isEmpty=false:=by
   rw [Lib.toList_data]
   show (un s).isEmpty=false
   rw [un_cons hpos];rfl
  by_cases hc:s[0]=c
  ·have HE:=hid (mkN_yes hpos hc)
   have hcc:((s[0].toNat:Int) != (c.toNat:Int))=false:=by simp [hc]
   have hsx:(s.extract 1 s.size).size≤9223372036854775807:=by rw [ByteArray.size_extract];omega
   have HC:=hid (small_calls (s.extract 1 s.size) hsx 999 w)
   unfold SmPost at HC
   clear hc
   go_enter Tryz.func154,Tryz.ntmps154
   go_wp2_with fail
   refine HC.out.mono ?_
   rintro e w1 ⟨rfl,hb⟩
   clear HC
   generalize NumG.sm (un (s.extract 1 s.size)) 999=r at *
   go_wp2
   go_ret2
   exact ⟨by rw [HE.out];rfl,hb⟩
  ·have HE:=hid (mkN_no hpos hc)
   have hcc:((s[0].toNat:Int) != (c.toNat:Int))=true:=by
    simp only [bne_iff_ne,ne_eq]
    intro e
    exact hc (UInt8.toNat_inj.1 (by omega))
   clear hc
   go_enter Tryz.func154,Tryz.ntmps154
   go_wp2
   go_ret2
   exact ⟨by rw [HE.out];rfl,Below.refl _ _⟩
end Go.Proofs.YtbebficgcemkoaaGreatDoor.LxY
namespace Go.Proofs.YtbebficgcemkoaaGreatDoor.LxY
open Go.RowKit Go.Lib LxM LxP LxK LxJ LxS NumP NumQ NumR NumG

/-! words that may be -/
theorem may_no {x:ByteArray} {k:Nat} (h:k < x.size) (hk:kindS x k≠0):mayB (un x)=false:=by
 rw [kindS_in h] at hk
 obtain ⟨h2,e⟩:=at_byte h
 cases hm:mayB (un x) with
 | false=>rfl
 | true=>exact absurd (by rw [← e];exact (mayB_iff.1 hm).2 _ (List.getElem_mem h2)) hk
theorem may_yes {x:ByteArray} (h:∀ k,k < x.size→kindS x k=0):mayB (un x)=!(un x).isEmpty:=by
 cases he:un x with
 | nil=>rfl
 | cons a t =>
  rw [← he]
  rw [mayB_iff.2 ⟨by rw [he];simp,fun c hc=>?_⟩]
  ·rw [he];rfl
  ·obtain ⟨k,hk,rfl⟩:=List.getElem_of_mem hc
   have hk2:k < x.size:=by rw [un_len] at hk;exact hk
   have:=h k hk2
   rw [kindS_in hk2] at this
   exact this

theorem may_calls (x:ByteArray) (hs:x.size≤9223372036854775807) (w:World) (ht:Tab w) :
  Calls Tryz.prog 87 #[.string x] w (BoolR (mayB (un x)) w):=by
 have HT:=hid ht
 have HY:=hid (may_yes (x:=x))
 have HNO:=hid (fun k h=>may_no (x:=x) (k:=k) h)
 clear ht
 go_enter Tryz.func87,Tryz.ntmps87
 go_wp2
 go_loopg [6] x.size (fun gk i wr=>∃ k:Nat,k+gk=x.size∧i=.int .i64 k∧Hid (∀ j,j < k→kindS x j=0)∧Below w.heap.size w wr)
 case atStart=>exact ⟨0,by omega,rfl,(fun j h=>by omega),Below.refl _ _⟩
 case round =>
  obtain ⟨k,hk,rfl,HA,hbe⟩:=hrel
  have HK:=hid hk
  by_cases hlt:k < x.size
  ·have HC:=hid (kindAt_calls x k (by omega) wr (HT.out.on hbe))
   clear hk
   by_cases hz:kindS x k=0
   ·have HA2:Hid (∀ j,j < k+1→kindS x j=0):=fun j hj=>by
     by_cases e:j=k
     ·rw [e];exact hz
     ·exact HA.out j (by omega)
    rw [hz] at HC
    clear hz
    go_wp2_with fail
    refine HC.out.mono ?_
    rintro e w1 ⟨rfl,rfl⟩
    go_wp2
    go_roundg (gk - 1)
    case measure=>have:=HK.out;omega
    case rel=>exact ⟨k+1,by have:=HK.out;omega,by go_num,HA2,hbe⟩
   ·have HN:=hid (HNO.out k hlt hz)
    generalize kindS x k=kd at *
    have hne:((kd:Int) != 0)=true:=by simp;omega
    go_wp2_with fail
    refine HC.out.mono ?_
    rintro e w1 ⟨rfl,rfl⟩
    go_wp2
    go_ret
    exact ⟨by rw [HN.out];rfl,hbe⟩
  ·obtain rfl:k=x.size:=by omega
   have HE:=hid (HY.out HA.out)
   clear hk
   go_wp2
   go_ret
   exact ⟨by rw [HE.out];show Ending.returned (Value.bool (!x.toList.isEmpty))=_;rw [Lib.toList_data],hbe⟩
theorem oddw_calls (x:ByteArray) (hs:x.size≤9223372036854775807) (w:World) (ht:Tab w) :
  Calls Tryz.prog 86 #[.string x] w (BoolR (!mayB (un x)) w):=by
 have HC:=hid (may_calls x hs w ht)
 generalize mayB (un x)=b at *
 go_enter Tryz.func86,Tryz.ntmps86
 go_wp2_with fail
 refine HC.out.mono ?_
 rintro e w1 ⟨rfl,hb⟩
 go_wp2
 go_ret
 exact ⟨rfl,hb⟩
end Go.Proofs.YtbebficgcemkoaaGreatDoor.LxY
namespace Go.Proofs.YtbebficgcemkoaaGreatDoor.LxO
open Go.RowKit Go.Lib LxM LxP LxK LxJ LxS LxY

def IdxR (b:Bool) (w:World) (e:Ending) (w' : World):Prop:=∃ i:Int,e=.returned (.int .i64 i)∧decide (0≤i)=b∧Below w.heap.size w w'
theorem any_no {α:Type} {l:List α} {p:α→Bool} (h:∀ k (hk:k < l.length),p l[k]=false):l.any p=false :=
 List.any_eq_false.2 fun x hx=>by
  obtain ⟨k,hk,rfl⟩:=List.getElem_of_mem hx
  simp [h k hk]
theorem any_yes {α:Type} {l:List α} {p:α→Bool} {k:Nat} (hk:k < l.length) (h:p l[k]=true):l.any p=true:=List.any_eq_true.2 ⟨_,List.getElem_mem hk,h⟩

abbrev fnV (f:FuncId):Value:=.func (.func f) #[] #[]
def badW (x:ByteArray):Bool:=!mayB (un x)

theorem q11x1 {P:Prop} (h:P:=by
 cases bb with
 | true =>
  have HYY:=hid (HY.out rfl)
  clear HB2 HNO HYE HY
  go_wp2_with fail
  refine HC.out.mono ?_
  rintro e w1 ⟨rfl,hb1⟩
  have hbb:=hbe.trans (hb1.mono hbe.size)
  go_wp2
  go_ret
  exact ⟨k,rfl,by rw [HYY.out];simp,hbb⟩
 | false =>
  have HB3:=hid (HB2.out rfl)
  clear HB2 HNO HYE HY
  go_wp2_with fail
  refine HC.out.mono ?_
  rintro e w1 ⟨rfl,hb1⟩
  have hbb:=hbe.trans (hb1.mono hbe.size)
  go_wp2
  go_roundg (gk - 1)
  case measure=>have:=HK.out;omega
  case rel=>exact ⟨k+1,by have:=HK.out;omega,by go_num,HB3,hbb⟩):P:=h
theorem q11x2 {P:Prop} (h:P:=by
 have HE:=hid (HNO.out fun j hj=>HB.out j hj hj)
 clear hk
 go_wp2
 go_ret
 exact ⟨-1,rfl,by rw [HE.out];rfl,hbe⟩):P:=h
theorem idxS_calls (va:Value) (l:List ByteArray) (w:World) (hl:StrsAt w va l) (hs:∀ x∈l,x.size≤9223372036854775807) (ht:Tab w) :
  Calls Tryz.prog 136 #[va,fnV 86] w (IdxR (l.any badW) w):=by
 have HA:=hid hl
 obtain ⟨ao,ac,rfl,hla⟩:=hl.slice
 have HT:=hid ht
 have HSZ:=hid hs
 have HNO:=hid (any_no (l:=l) (p:=badW))
 have HYE:=hid (fun k hk h=>any_yes (l:=l) (p:=badW) (k:=k) hk h)
 clear hl hs ht
 go_enter Tryz.func136,Tryz.ntmps136
 go_wp2
 go_loopg [8] l.length (fun gk i wr=>∃ k:Nat,k+gk=l.length∧i=.int .i64 k∧Hid (∀ j (h:j < l.length),j < k→badW l[j]=false)∧Below w.heap.size w wr)
 case atStart=>exact ⟨0,by omega,rfl,(fun j h h2=>by omega),Below.refl _ _⟩
 case round =>
  obtain ⟨k,hk,rfl,HB,hbe⟩:=hrel
  have HK:=hid hk
  by_cases hlt:k < l.length
  ·obtain ⟨b,o,rfl,_,hc⟩:=(HA.out.below hbe).at k hlt
   have HC:=hid (oddw_calls l[k] (HSZ.out _ (List.getElem_mem hlt)) wr (HT.out.on hbe))
   have HY:=hid (HYE.out k hlt)
   have HB2:Hid (badW l[k]=false→∀ j (h:j < l.length),j < k+1→badW l[j]=false):=fun h j hj h2=>by
    by_cases e:j=k
    ·subst e;exact h
    ·exact HB.out j hj (by omega)
   change Hid (Calls _ _ _ _ (BoolR (badW l[k]) wr)) at HC
   generalize hbb:badW l[k]=bb at *
   generalize l[k]=x at *
   clear hk hbb
   exact q11x1
  ·obtain rfl:k=l.length:=by omega
   exact q11x2
theorem conS_calls (va:Value) (l:List ByteArray) (w:World) (hl:StrsAt w va l) (hs:∀ x∈l,x.size≤9223372036854775807) (ht:Tab w) :
  Calls Tryz.prog 85 #[va,fnV 86] w (BoolR (l.any badW) w):=by
 have HC:=hid (idxS_calls va l w hl hs ht)
 generalize l.any badW=b at *
 go_enter Tryz.func85,Tryz.ntmps85
 go_wp2_with fail
 refine HC.out.mono ?_
 rintro e w1 ⟨i,rfl,rfl,hb⟩
 go_wp2
 go_ret
 exact ⟨rfl,hb⟩
def badL (x:List ByteArray):Bool:=decide (x.length=0) || x.any badW
theorem badL_odd (x:List ByteArray):badL x=oddL (unW x):=by
 unfold badL oddL unW
 rw [List.any_map]
 congr 1
 cases x<;>simp
theorem odd_calls (va:Value) (l:List ByteArray) (w:World) (hl:StrsAt w va l) (hs:∀ x∈l,x.size≤9223372036854775807) (ht:Tab w) :
  Calls Tryz.prog 40 #[va] w (BoolR (badL l) w):=by
 have HC:=hid (conS_calls va l w hl hs ht)
 obtain ⟨ao,ac,rfl,hla⟩:=hl.slice
 unfold badL
 generalize l.any badW=b at *
 by_cases h0:l.length=0
 ·rw [h0] at HC ⊢
  clear hl hla h0 hs
  go_enter Tryz.func40,Tryz.ntmps40
  go_wp2
  go_ret
  exact ⟨by simp,Below.refl _ _⟩
 ·have hne:((l.length:Int) == 0)=false:=beq_eq_false_iff_ne.2 (by omega)
  have hd:decide (l.length=0)=false:=by simpa using h0
  rw [hd]
  clear hl hd h0 hs
  generalize l.length=n at *
  go_enter Tryz.func40,Tryz.ntmps40
  go_wp2_with fail
  refine HC.out.mono ?_
  rintro e w1 ⟨rfl,hb⟩
  go_wp2
  go_ret
  exact ⟨by simp,hb⟩
theorem idxL_calls (va:Value) (l:List (List ByteArray)) (w:World) (hl:LinesAt w va l) (hs:∀ x∈l,∀ y∈x,y.size≤9223372036854775807) (ht:Tab w) :
  Calls Tryz.prog 84 #[va,fnV 40] w (IdxR (l.any badL) w):=by
 have HA:=hid hl
 obtain ⟨ao,ac,rfl,hla⟩:=hl.slice
 have HT:=hid ht
 have HSZ:=hid hs
 have HNO:=hid (any_no (l:=l) (p:=badL))
 have HYE:=hid (fun k hk h=>any_yes (l:=l) (p:=badL) (k:=k) hk h)
 clear hl hs ht
 go_enter Tryz.func84,Tryz.ntmps84
 go_wp2
 go_loopg [8] l.length (fun gk i wr=>∃ k:Nat,k+gk=l.length∧i=.int .i64 k∧Hid (∀ j (h:j < l.length),j < k→badL l[j]=false)∧Below w.heap.size w wr)
 case atStart=>exact ⟨0,by omega,rfl,(fun j h h2=>by omega),Below.refl _ _⟩
 case round =>
  obtain ⟨k,hk,rfl,HB,hbe⟩:=hrel
  have HK:=hid hk
  by_cases hlt:k < l.length
  ·obtain ⟨b,o,pv,rfl,_,hc,hp⟩:=(HA.out.below hbe).at k hlt
   have HC:=hid (odd_calls pv l[k] wr hp (HSZ.out _ (List.getElem_mem hlt)) (HT.out.on hbe))
   have HY:=hid (HYE.out k hlt)
   have HB2:Hid (badL l[k]=false→∀ j (h:j < l.length),j < k+1→badL l[j]=false):=fun h j hj h2=>by
    by_cases e:j=k
    ·subst e;exact h
    ·exact HB.out j hj (by omega)
   change Hid (Calls _ _ _ _ (BoolR (badL l[k]) wr)) at HC
   generalize hbb:badL l[k]=bb at *
   generalize l[k]=x at *
   clear hk hbb hp
   exact q11x1
  ·obtain rfl:k=l.length:=by omega
   exact q11x2
theorem conL_calls (va:Value) (l:List (List ByteArray)) (w:World) (hl:LinesAt w va l) (hs:∀ x∈l,∀ y∈x,y.size≤9223372036854775807) (ht:Tab w) :
  Calls Tryz.prog 39 #[va,fnV 40] w (BoolR (l.any badL) w):=by
 have HC:=hid (idxL_calls va l w hl hs ht)
 generalize l.any badL=b at *
 go_enter Tryz.func39,Tryz.ntmps39
 go_wp2_with fail
 refine HC.out.mono ?_
 rintro e w1 ⟨i,rfl,rfl,hb⟩
 go_wp2
 go_ret
 exact ⟨rfl,hb⟩
end Go.Proofs.YtbebficgcemkoaaGreatDoor.LxO
namespace Go.Proofs.YtbebficgcemkoaaGreatDoor.LxN
open Go.RowKit Go.Lib LxM LxP LxK LxJ LxS LxY LxO LxB

def JnR (l:List (List ByteArray)) (w:World) (e:Ending) (w' : World):Prop :=
 e=.returned (.tuple #[.string (mk (jnT (unL l))),.int .i64 (jnE (unL l))])∧Below w.heap.size w w'
structure Fits (l:List (List ByteArray)):Prop where
 lines:l.length≤20000
 words:∀ x∈l,x.length≤10000
 size:∀ x∈l,∀ y∈x,y.size≤1000000
 all:szT (unL l)≤900000
theorem szL_snoc {x:List ByteArray} {j:Nat} (h:j < x.length):szL ((unW x).take (j+1))=szL ((unW x).take j)+(x[j].size+1):=by
 have h2:j < (unW x).length:=by simpa using h
 rw [List.take_succ_eq_append_getElem h2,szL_append,szL_one]
 simp only [List.getElem_map,un_len]
theorem szT_snoc {l:List (List ByteArray)} {i:Nat} (h:i < l.length):szT ((unL l).take (i+1))=szT ((unL l).take i)+szL (unW l[i]):=by
 have h2:i < (unL l).length:=by simpa using h
 rw [List.take_succ_eq_append_getElem h2,szT_append,szT_one]
 simp only [List.getElem_map]
theorem any_bad (l:List (List ByteArray)):l.any badL=(unL l).any oddL:=by
 rw [List.any_map]
 congr 1
 funext x
 exact badL_odd x
theorem jn_long {l:List (List ByteArray)} (h:l.any badL=false) {i:Nat} (hi:i < l.length) (hl:64 < l[i].length):jnE (unL l)=4:=by
 rw [any_bad] at h
 refine jnE_many h (.inl ⟨unW l[i],List.mem_map_of_mem (List.getElem_mem hi),by simpa using hl⟩)
theorem jn_great {l:List (List ByteArray)} (h:l.any badL=false) (hs:16384 < szT (unL l)):jnE (unL l)=4:=by
 rw [any_bad] at h
 exact jnE_many h (.inr hs)
theorem jn_fine {l:List (List ByteArray)} (h:l.any badL=false) (h2:∀ x∈l,x.length≤64) (h3:szT (unL l)≤16384):jnE (unL l)=0:=by
 rw [any_bad] at h
 refine jnE_ok h (fun x hx=>?_) h3
 obtain ⟨y,hy,rfl⟩:=List.mem_map.1 hx
 simpa using h2 y hy
theorem JnR.no {l:List (List ByteArray)} {w w' : World} {c:Int} (h:jnE (unL l)=c) (hc:c≠0) (hb:Below w.heap.size w w'):JnR l w (.returned (.tuple #[.string ⟨#[]⟩,.int .i64 c])) w' :=
 ⟨by rw [h,jnT_no (by rw [h];exact hc)];rfl,hb⟩
theorem JnR.yes {l:List (List ByteArray)} {w w' : World} (h:jnE (unL l)=0) (hb:Below w.heap.size w w'):JnR l w (.returned (.tuple #[.string ⟨(textT (unL l)).toArray⟩,.int .i64 0])) w' :=
 ⟨by rw [h,jnT_ok h];rfl,hb⟩

theorem bld_below {B b:Nat} {bs:List Value} {w w' : World} (h:Bld B b bs w) (hb:Below w.heap.size w w'):Bld B b bs w':=by
 have key:∀ {p:Value},Lib.BuilderAt 129 5 B b p bs w→Lib.BuilderAt 129 5 B b p bs w':=by
  rintro p ⟨h1,v,h2,h3,h4⟩
  exact ⟨h1,v,(hb.block b (Array.getElem?_eq_some_iff.1 h2).1).trans h2,ownsRow_below h3 hb,h4⟩
 rcases h with h | h
 ·exact .inl (key h)
 ·exact .inr (key h)
theorem cells_line (T:List UInt8) (x:List Word):Lib.byteCells T++Lib.strCells (mk (Lib.join x [32]))++[.int .u8 10]=Lib.byteCells (T++lineT x):=by
 unfold lineT
 rw [Lib.strCells_eq,show (mk (Lib.join x [32])).data.toList=Lib.join x [32] from un_mk _,Lib.byteCells_append,Lib.byteCells_append,List.append_assoc]
 rfl

theorem join_calls (va:Value) (l:List (List ByteArray)) (w:World) (hl:LinesAt w va l) (hf:Fits l) (hgood:l.any badL=false) :
  Calls Tryz.prog 41 #[va] w (JnR l w):=by
 have HA:=hid hl
 obtain ⟨ao,ac,rfl,hla⟩:=hl.slice
 have HF:=hid hf
 have HG:=hid hgood
 have hlen:=hf.lines
 have hall:=hf.all
 clear hl hf hgood
 go_enter Tryz.func41,Tryz.ntmps41
 go_wp2
 go_loopg [4,14] l.length (fun gk sv iv wr=>∃ i:Nat,i+gk=l.length∧iv=.int .i64 i∧sv=.int .i64 (szT ((unL l).take i):Nat)∧Hid (∀ j (h:j < l.length),j < i→l[j].length≤64)∧Below w.heap.size w wr)
 case atStart=>exact ⟨0,by omega,rfl,by simp [szT],(fun j h h2=>by omega),Below.refl _ _⟩
 case round =>
  obtain ⟨i,hi,rfl,rfl,HS,hbe⟩:=hrel
  have HI:=hid hi
  have hst:=szT_take_le (unL l) i
  by_cases hlt:i < l.length
  ·obtain ⟨b,o,pv,rfl,hb0,hc,hp⟩:=(HA.out.below hbe).at i hlt
   have HSN:=hid (szT_snoc hlt)
   have hst1:=szT_take_le (unL l) (i+1)
   rw [HSN.out] at hst1
   have HSX:Hid (l[i].length≤64→∀ j (h:j < l.length),j < i+1→l[j].length≤64):=fun h j hj h2=>by
    by_cases e:j=i
    ·subst e;exact h
    ·exact HS.out j hj (by omega)
   have HLO:=hid (jn_long HG.out hlt)
   have HSI:=hid (HF.out.size _ (List.getElem_mem hlt))
   have hxw:=HF.out.words _ (List.getElem_mem hlt)
   generalize l[i]=x at *
   have HP:=hid hp
   obtain ⟨pa,pc,rfl,hpl⟩:=hp.slice
   generalize szT ((unL l).take i)=n at *
   clear hp hi
   by_cases h64:64 < x.length
   ·have HE:=hid (HLO.out h64)
    clear HP HSN HSX HLO HSI hst1
    generalize x.length=m at *
    go_wp2
    go_ret2
    exact JnR.no HE.out (by decide) hbe
   ·have HS2:=hid (HSX.out (by omega))
    have hgl:∀ k,szL ((unW x).take k)≤szL (unW x):=fun k=>szL_take_le _ _
    have HGL:=hid hgl
    clear hgl HSX HLO
    go_wp2
    obtain ⟨wo,hwo⟩:∃ wo:World,wo=wr:=⟨wr,rfl⟩
    subst hwo
    obtain ⟨go,hgo⟩:∃ go:Nat,go=gk:=⟨gk,rfl⟩
    subst hgo
    clear hc
    go_loopg [4,23] x.length (fun gk nv jv wr=>∃ j:Nat,j+gk=x.length∧jv=.int .i64 j∧nv=.int .i64 ((n+szL ((unW x).take j):Nat):Int)∧Below wo.heap.size wo wr)
    case atStart=>exact ⟨0,by omega,rfl,by simp [szL],Below.refl _ _⟩
    case round =>
     obtain ⟨j,hj,rfl,rfl,hbj⟩:=hrel
     have HJ:=hid hj
     have hg1:=HGL.out j
     by_cases hjl:j < x.length
     ·obtain ⟨xb,xo,rfl,_,cx⟩:=(HP.out.below hbj).at j hjl
      have HGS:=hid (szL_snoc hjl)
      have hys:=HSI.out _ (List.getElem_mem hjl)
      generalize x[j]=y at *
      generalize szL ((unW x).take j)=g at *
      clear hj
      go_wp2
      go_roundg (gk - 1)
      case measure=>have:=HJ.out;omega
      case rel=>exact ⟨j+1,by have:=HJ.out;omega,by go_num,by rw [HGS.out];go_num,hbj⟩
     ·obtain rfl:j=x.length:=by omega
      have hbb:=hbe.trans (hbj.mono hbe.size)
      have e:(unW x).take x.length=unW x:=List.take_of_length_le (by simp)
      rw [e] at *
      generalize szL (unW x)=g at *
      clear hj
      go_wp2
      go_roundg (go - 1)
      case measure=>have:=HI.out;omega
      case rel=>exact ⟨i+1,by have:=HI.out;omega,by go_num,by rw [HSN.out];go_num,HS2,hbb⟩
  ·obtain rfl:i=l.length:=by omega
   have e:(unL l).take l.length=unL l:=List.take_of_length_le (by simp)
   rw [e] at *
   have HS2:Hid (∀ x∈l,x.length≤64):=fun x hx=>by
    obtain ⟨k,hk,rfl⟩:=List.getElem_of_mem hx
    exact HS.out k hk hk
   have HGR:=hid (jn_great HG.out)
   have HFI:=hid (jn_fine HG.out HS2.out)
   have HT:=hid (textT_length (l:=unL l) (fun x hx=>by
    have h:=HG.out
    rw [any_bad] at h
    exact (oddL_false.1 (by simpa using List.any_eq_false.1 h x hx)).1))
   clear hi e
   generalize hsz:szT (unL l)=sz at *
   by_cases hbig:16384 < sz
   ·have HE:=hid (HGR.out hbig)
    clear HGR HFI HS2 HS HF HT hsz
    go_wp2
    go_ret2
    exact JnR.no HE.out (by decide) hbe
   ·have HE:=hid (HFI.out (by omega))
    have hsz2:szT (unL l)≤16384:=by rw [hsz];omega
    have HSZ:=hid hsz2
    clear HGR HFI HS2 HS hsz hsz2
    obtain ⟨wo,hwo⟩:∃ wo:World,wo=wr:=⟨wr,rfl⟩
    subst hwo
    have HB0:Hid (Bld wo.heap.size wo.heap.size (Lib.byteCells (textT ((unL l).take 0))) (wo.alloc (.cells #[.pointer none,.slice none 0 0] 129))):=Lib.fresh_isBuilder _ _ wo
    have HBA:=hid (alloc_below wo (.cells #[.pointer none,.slice none 0 0] 129))
    have HBE:=hid hbe
    have HLT:=hid (fun x (hx:x∈l)=>lineT_length (x:=unW x) (by
     have h:=HG.out
     have:=List.any_eq_false.1 h x hx
     rw [badL_odd] at this
     exact (oddL_false.1 (by simpa using this)).1))
    clear hbe hlt
    go_wp2
    go_loopg [38] l.length (fun gk iv wx=>∃ k:Nat,k+gk=l.length∧iv=.int .i64 k∧Hid (Bld wo.heap.size wo.heap.size (Lib.byteCells (textT ((unL l).take k))) wx)∧Hid (Below wo.heap.size wo wx))
    case atStart=>exact ⟨0,by omega,rfl,HB0,HBA⟩
    case round =>
     obtain ⟨k,hk,rfl,HBL,HBW⟩:=hrel
     have HK:=hid hk
     by_cases hlt:k < l.length
     ·have hbw:=HBE.out.trans (HBW.out.mono HBE.out.size)
      obtain ⟨b,o,pv,rfl,hb0,hc,hp⟩:=(HA.out.below hbw).at k hlt
      have hxl:=HLT.out _ (List.getElem_mem hlt)
      have hxw:=HF.out.words _ (List.getElem_mem hlt)
      have h1:=szT_take_le (unL l) (k+1)
      rw [szT_snoc hlt] at h1
      have h2:=HSZ.out
      have HTN:Hid (textT ((unL l).take (k+1))=textT ((unL l).take k)++lineT (unW l[k])):=by
       show _=_
       have h2:k < (unL l).length:=by simpa using hlt
       rw [List.take_succ_eq_append_getElem h2,textT_append,textT_one]
       simp only [List.getElem_map]
      have HTL:Hid ((textT ((unL l).take k)).length≤16384):=by
       show _≤_
       rw [textT_length (l:=(unL l).take k) (fun x hx=>by
        obtain ⟨y,hy,rfl⟩:=List.mem_map.1 (List.mem_of_mem_take hx)
        have:=List.any_eq_false.1 HG.out y hy
        rw [badL_odd] at this
        exact (oddL_false.1 (by simpa using this)).1)]
       have:=szT_take_le (unL l) k
       omega
      generalize l[k]=x at *
      have hjl:(Lib.join (x.map (·.data.toList)) [32]).length≤16384:=by
       unfold lineT at hxl
       rw [List.length_append] at hxl
       have:(Lib.join (unW x) [32]).length+1=szL (unW x):=hxl
       have e:(Lib.join (x.map (·.data.toList)) [32]).length=(Lib.join (unW x) [32]).length:=rfl
       omega
      have HC:=hid (joinS_calls pv x wr hp (by omega) (by omega))
      have HCL:=hid (cells_line (textT ((unL l).take k)) (unW x))
      change Hid (Lib.byteCells _++Lib.strCells ⟨(Lib.join (x.map (·.data.toList)) [32]).toArray⟩++_=_) at HCL
      rw [← HTN.out] at HCL
      have hys:(⟨(Lib.join (x.map (·.data.toList)) [32]).toArray⟩:ByteArray).size≤16384:=by rw [show (⟨(Lib.join (x.map (·.data.toList)) [32]).toArray⟩:ByteArray)=mk (Lib.join (x.map (·.data.toList)) [32]) from rfl,mk_size];exact hjl
      generalize (⟨(Lib.join (x.map (·.data.toList)) [32]).toArray⟩:ByteArray)=y at *
      generalize hT:textT ((unL l).take k)=T at *
      have hbl:(Lib.byteCells T).length≤16384:=by rw [Lib.byteCells_length];exact HTL.out
      generalize Lib.byteCells T=bs at *
      obtain ⟨pa,pc,rfl,hpl⟩:=hp.slice
      clear hp hk hT HTN HTL hxl hjl h1 h2 hbw
      go_wp2_with fail
      refine HC.out.mono ?_
      rintro e w1 ⟨rfl,hb1⟩
      have HB1:=hid (bld_below HBL.out hb1)
      have HW1:=hid (HBW.out.trans (hb1.mono HBW.out.size))
      have HS1:=hid (writeS_calls _ _ _ y w1 HB1.out (by omega) HW1.out.size)
      clear hb1 HC hc
      go_wp2_with fail
      refine HS1.out.mono ?_
      rintro e w2 ⟨rfl,h2,hb2⟩
      have HW2:=hid (HW1.out.trans hb2)
      have HS2:=hid (writeB_calls _ _ _ 10 w2 (.inr h2) (by rw [List.length_append,Lib.strCells_length];omega) HW2.out.size)
      clear h2 hb2 HS1
      go_wp2_with fail
      refine HS2.out.mono ?_
      rintro e w3 ⟨rfl,h3,hb3⟩
      have HW3:=hid (HW2.out.trans hb3)
      rw [HCL.out] at h3
      have H3:=hid (Or.inr h3:Bld wo.heap.size wo.heap.size (Lib.byteCells (textT ((unL l).take (k+1)))) w3)
      clear h3 hb3 HS2 HCL
      go_wp2
      go_roundg (gk - 1)
      case measure=>have:=HK.out;omega
      case rel=>exact ⟨k+1,by have:=HK.out;omega,by go_num,H3,HW3⟩
     ·obtain rfl:k=l.length:=by omega
      have e:(unL l).take l.length=unL l:=List.take_of_length_le (by simp)
      rw [e] at HBL
      have HST:=hid (Tryz.Builder_String_any _ _ _ wr HBL.out HBW.out.size)
      have HF2:=hid (HBE.out.trans (HBW.out.mono HBE.out.size))
      have HSZ2:=hid HBE.out.size
      clear hk e
      go_wp2_with fail
      refine HST.out.mono ?_
      rintro e w1 ⟨rfl,hb1⟩
      have hbf:=HBE.out.trans ((HBW.out.trans hb1).mono HBE.out.size)
      clear hb1 HST
      go_wp2
      go_ret2
      exact JnR.yes HE.out hbf
end Go.Proofs.YtbebficgcemkoaaGreatDoor.LxN
namespace Go.Proofs.YtbebficgcemkoaaGreatDoor.LxT
open Go.RowKit Go.Lib LxM LxP LxK LxJ LxS LxY LxO LxB LxN

theorem joinC_calls (va:Value) (l:List (List ByteArray)) (w:World) (hl:LinesAt w va l) (hf:Fits l) (ht:Tab w) :
  Calls Tryz.prog 21 #[va] w (JnR l w):=by
 have HC:=hid (conL_calls va l w hl (fun x hx y hy=>by have:=hf.size x hx y hy;omega) ht)
 have HJ:=hid (fun (h:l.any badL=false) (w1:World) (hb:Below w.heap.size w w1)=>join_calls va l w1 (hl.below hb) hf h)
 have HO:=hid (fun (h:l.any badL=true)=>jnE_odd (l:=unL l) (by rw [← any_bad];exact h))
 obtain ⟨ao,ac,rfl,hla⟩:=hl.slice
 clear hl hf ht
 generalize l.any badL=b at *
 cases b with
 | true =>
  have HE:=hid (HO.out rfl)
  clear HO HJ
  go_enter Tryz.func21,Tryz.ntmps21
  go_wp2_with fail
  refine HC.out.mono ?_
  rintro e w1 ⟨rfl,hb⟩
  go_wp2
  go_ret2
  exact JnR.no HE.out (by decide) hb
 | false =>
  have HJ2:=hid (HJ.out rfl)
  clear HO HJ
  go_enter Tryz.func21,Tryz.ntmps21
  go_wp2_with fail
  refine HC.out.mono ?_
  rintro e w1 ⟨rfl,hb⟩
  have HJ3:=hid (HJ2.out w1 hb)
  go_wp2_with fail
  refine HJ3.out.mono ?_
  rintro e w2 ⟨rfl,hb2⟩
  have hbb:=hb.trans (hb2.mono hb.size)
  go_wp2
  go_ret2
  exact ⟨rfl,hbb⟩

theorem kind_no {c:UInt8} (h:c.toNat=32∨c.toNat=9∨c.toNat=13∨c.toNat=10∨c.toNat=35):kindB c≠0:=by
 unfold kindB
 (repeat' split)<;>omega
theorem kind_yes {c:UInt8} (h:¬ (c.toNat=32∨c.toNat=9∨c.toNat=13∨c.toNat=10∨c.toNat=35)):kindB c=0:=by
 unfold kindB
 (repeat' split)<;>omega

theorem mayR_calls (x:ByteArray) (hs:x.size≤9223372036854775807) (w:World) :
  Calls Tryz.prog 103 #[.string x] w (BoolR (mayB (un x)) w):=by
 have HY:=hid (may_yes (x:=x))
 have HNO:=hid (fun k h=>may_no (x:=x) (k:=k) h)
 go_enter Tryz.func103,Tryz.ntmps103
 go_wp2
 go_loopg [3] x.size (fun gk i wr=>∃ k:Nat,k+gk=x.size∧i=.int .i64 k∧Hid (∀ j,j < k→kindS x j=0)∧Below w.heap.size w wr)
 case atStart=>exact ⟨0,by omega,rfl,(fun j h=>by omega),Below.refl _ _⟩
 case round =>
  obtain ⟨k,hk,rfl,HA,hbe⟩:=hrel
  have HK:=hid hk
  by_cases hlt:k < x.size
  ·have hin:=kindS_in hlt
   have h255:=u8_le x[k]
   have HN:=hid (fun h=>HNO.out k hlt (by rw [hin];exact kind_no h))
   have HA2:Hid (¬ (x[k].toNat=32∨x[k].toNat=9∨x[k].toNat=13∨x[k].toNat=10∨x[k].toNat=35)→∀ j,j < k+1→kindS x j=0):=fun h j hj=>by
    by_cases e:j=k
    ·rw [e,hin];exact kind_yes h
    ·exact HA.out j (by omega)
   clear hk hin
   by_cases h32:x[k].toNat=32
   ·have HE:=hid (HN.out (by omega))
    have e32:((x[k].toNat:Int) == 32)=true:=beq_iff_eq.2 (by omega)
    clear HN HA2 h32
    go_wp2
    go_ret
    exact ⟨by rw [HE.out];rfl,hbe⟩
   by_cases h9:x[k].toNat=9
   ·have HE:=hid (HN.out (by omega))
    have e32:((x[k].toNat:Int) == 32)=false:=beq_eq_false_iff_ne.2 (by omega)
    have e9:((x[k].toNat:Int) == 9)=true:=beq_iff_eq.2 (by omega)
    clear HN HA2 h32 h9
    go_wp2
    go_ret
    exact ⟨by rw [HE.out];rfl,hbe⟩
   by_cases h13:x[k].toNat=13
   ·have HE:=hid (HN.out (by omega))
    have e32:((x[k].toNat:Int) == 32)=false:=beq_eq_false_iff_ne.2 (by omega)
    have e9:((x[k].toNat:Int) == 9)=false:=beq_eq_false_iff_ne.2 (by omega)
    have e13:((x[k].toNat:Int) == 13)=true:=beq_iff_eq.2 (by omega)
    clear HN HA2 h32 h9 h13
    go_wp2
    go_ret
    exact ⟨by rw [HE.out];rfl,hbe⟩
   by_cases h10:x[k].toNat=10
   ·have HE:=hid (HN.out (by omega))
    have e32:((x[k].toNat:Int) == 32)=false:=beq_eq_false_iff_ne.2 (by omega)
    have e9:((x[k].toNat:Int) == 9)=false:=beq_eq_false_iff_ne.2 (by omega)
    have e13:((x[k].toNat:Int) == 13)=false:=beq_eq_false_iff_ne.2 (by omega)
    have e10:((x[k].toNat:Int) == 10)=true:=beq_iff_eq.2 (by omega)
    clear HN HA2 h32 h9 h13 h10
    go_wp2
    go_ret
    exact ⟨by rw [HE.out];rfl,hbe⟩
   by_cases h35:x[k].toNat=35
   ·have HE:=hid (HN.out (by omega))
    have e32:((x[k].toNat:Int) == 32)=false:=beq_eq_false_iff_ne.2 (by omega)
    have e9:((x[k].toNat:Int) == 9)=false:=beq_eq_false_iff_ne.2 (by omega)
    have e13:((x[k].toNat:Int) == 13)=false:=beq_eq_false_iff_ne.2 (by omega)
    have e10:((x[k].toNat:Int) == 10)=false:=beq_eq_false_iff_ne.2 (by omega)
    have e35:((x[k].toNat:Int) == 35)=true:=beq_iff_eq.2 (by omega)
    clear HN HA2 h32 h9 h13 h10 h35
    go_wp2
    go_ret
    exact ⟨by rw [HE.out];rfl,hbe⟩
   have HA3:=hid (HA2.out (by omega))
   have e32:((x[k].toNat:Int) == 32)=false:=beq_eq_false_iff_ne.2 (by omega)
   have e9:((x[k].toNat:Int) == 9)=false:=beq_eq_false_iff_ne.2 (by omega)
   have e13:((x[k].toNat:Int) == 13)=false:=beq_eq_false_iff_ne.2 (by omega)
   have e10:((x[k].toNat:Int) == 10)=false:=beq_eq_false_iff_ne.2 (by omega)
   have e35:((x[k].toNat:Int) == 35)=false:=beq_eq_false_iff_ne.2 (by omega)
   clear HN HA2 h32 h9 h13 h10 h35
   go_wp2
   go_roundg (gk - 1)
   case measure=>have:=HK.out;omega
   case rel=>exact ⟨k+1,by have:=HK.out;omega,by go_num,HA3,hbe⟩
  ·obtain rfl:k=x.size:=by omega
   have HE:=hid (HY.out HA.out)
   clear hk
   go_wp2
   go_ret
   exact ⟨by rw [HE.out];show Ending.returned (Value.bool (!x.toList.isEmpty))=_;rw [Lib.toList_data],hbe⟩
end Go.Proofs.YtbebficgcemkoaaGreatDoor.LxT
namespace Go.Proofs.YtbebficgcemkoaaGreatDoor.LxU
open Go.RowKit Go.Lib LxM LxP LxK LxJ LxS LxY LxO LxB LxN LxT

theorem all_good {l:List (List ByteArray)} (h:∀ k (hk:k < l.length),badL l[k]=false):l.any badL=false:=any_no h
theorem bad_word {x:List ByteArray} {j:Nat} (h:j < x.length) (hb:mayB (un x[j])=false):badL x=true:=by
 unfold badL
 rw [any_yes h (by unfold badW;rw [hb];rfl)]
 simp
theorem good_line {x:List ByteArray} (h:∀ j (hj:j < x.length),mayB (un x[j])=true) (h0:x.length≠0):badL x=false:=by
 unfold badL
 rw [any_no fun k hk=>by unfold badW;rw [h k hk];rfl]
 simp
 intro e;exact h0 (by rw [e];rfl)

theorem mayAll_calls (va:Value) (l:List (List ByteArray)) (w:World) (hl:LinesAt w va l) (hf:Fits l) :
  Calls Tryz.prog 48 #[va] w (BoolR (!l.any badL) w):=by
 have HA:=hid hl
 obtain ⟨ao,ac,rfl,hla⟩:=hl.slice
 have HF:=hid hf
 have HGO:=hid (all_good (l:=l))
 have HBA:=hid (fun k hk h=>any_yes (l:=l) (p:=badL) (k:=k) hk h)
 clear hl hf
 go_enter Tryz.func48,Tryz.ntmps48
 go_wp2
 go_loopg [3,4] l.length (fun gk iv _kv wr=>∃ i:Nat,i+gk=l.length∧iv=.int .i64 i∧Hid (∀ j (h:j < l.length),j < i→badL l[j]=false)∧Below w.heap.size w wr)
 case atStart=>exact ⟨0,by omega,rfl,(fun j h h2=>by omega),Below.refl _ _⟩
 case round =>
  obtain ⟨i,hi,rfl,HS,hbe⟩:=hrel
  have HI:=hid hi
  by_cases hlt:i < l.length
  ·obtain ⟨b,o,pv,rfl,hb0,hc,hp⟩:=(HA.out.below hbe).at i hlt
   have HBX:=hid (HBA.out i hlt)
   have HSX:Hid (badL l[i]=false→∀ j (h:j < l.length),j < i+1→badL l[j]=false):=fun h j hj h2=>by
    by_cases e:j=i
    ·subst e;exact h
    ·exact HS.out j hj (by omega)
   have HSI:=hid (HF.out.size _ (List.getElem_mem hlt))
   generalize l[i]=x at *
   have HP:=hid hp
   obtain ⟨pa,pc,rfl,hpl⟩:=hp.slice
   have HC:=hid hc
   clear hp hi
   go_wp2
   obtain ⟨wo,hwo⟩:∃ wo:World,wo=wr:=⟨wr,rfl⟩
   subst hwo
   obtain ⟨go,hgo⟩:∃ go:Nat,go=gk:=⟨gk,rfl⟩
   subst hgo
   clear hc
   go_loopg [4] x.length (fun gk jv wr=>∃ j:Nat,j+gk=x.length∧jv=.int .i64 j∧Hid (∀ k (hk:k < x.length),k < j→mayB (un x[k])=true)∧Below wo.heap.size wo wr)
   case atStart=>exact ⟨0,by omega,rfl,(fun j h h2=>by omega),Below.refl _ _⟩
   case round =>
    obtain ⟨j,hj,rfl,HM,hbj⟩:=hrel
    have HJ:=hid hj
    have hc:=(hbj.cell (p:=⟨b,_,none⟩) hb0).trans HC.out
    by_cases hjl:j < x.length
    ·obtain ⟨xb,xo,rfl,_,cx⟩:=(HP.out.below hbj).at j hjl
     have hys:=HSI.out _ (List.getElem_mem hjl)
     have HCM:=hid (mayR_calls x[j] (by omega) wr)
     have HBW:=hid (bad_word hjl)
     have HM2:Hid (mayB (un x[j])=true→∀ k (hk:k < x.length),k < j+1→mayB (un x[k])=true):=fun h k hk h2=>by
      by_cases e:k=j
      ·subst e;exact h
      ·exact HM.out k hk (by omega)
     generalize hmb:mayB (un x[j])=mb at *
     generalize x[j]=y at *
     clear hj hmb
     cases mb with
     | true =>
      have HM3:=hid (HM2.out rfl)
      clear HBW HM2
      go_wp2_with fail
      refine HCM.out.mono ?_
      rintro e w1 ⟨rfl,hb1⟩
      have hbb:=hbj.trans (hb1.mono hbj.size)
      clear hb1
      go_wp2
      go_roundg (gk - 1)
      case measure=>have:=HJ.out;omega
      case rel=>exact ⟨j+1,by have:=HJ.out;omega,by go_num,HM3,hbb⟩
     | false =>
      have HBB:=hid (HBX.out (HBW.out rfl))
      clear HBW HM2
      go_wp2_with fail
      refine HCM.out.mono ?_
      rintro e w1 ⟨rfl,hb1⟩
      have hbb:=hbe.trans ((hbj.trans (hb1.mono hbj.size)).mono hbe.size)
      clear hb1
      go_wp2
      go_ret
      exact ⟨by rw [HBB.out];rfl,hbb⟩
    ·obtain rfl:j=x.length:=by omega
     have hbb:=hbe.trans (hbj.mono hbe.size)
     have HGL:=hid (good_line (x:=x) fun k hk=>HM.out k hk hk)
     have HBL:Hid (x.length=0→badL x=true):=fun h=>by unfold badL;rw [h];rfl
     clear hj
     by_cases h0:x.length=0
     ·have HBB:=hid (HBX.out (HBL.out h0))
      have he:((x.length:Int) == 0)=true:=beq_iff_eq.2 (by omega)
      clear HBL HGL HM HBX HSX
      go_wp2
      go_ret
      exact ⟨by rw [HBB.out];rfl,hbb⟩
     ·have HS3:=hid (HSX.out (HGL.out h0))
      have he:((x.length:Int) == 0)=false:=beq_eq_false_iff_ne.2 (by omega)
      clear HBL HGL HM HBX HSX
      go_wp2
      go_roundg (go - 1)
      case measure=>have:=HI.out;omega
      case rel=>exact ⟨i+1,by have:=HI.out;omega,by go_num,HS3,hbb⟩
  ·obtain rfl:i=l.length:=by omega
   have HE:=hid (HGO.out fun k hk=>HS.out k hk hk)
   clear hi
   go_wp2
   go_ret
   exact ⟨by rw [HE.out];rfl,hbe⟩
end Go.Proofs.YtbebficgcemkoaaGreatDoor.LxU
namespace Go.Proofs.YtbebficgcemkoaaGreatDoor.LxV
open Go.RowKit Go.Lib LxM LxP LxK LxJ LxS LxY LxO LxB LxN LxT LxU

theorem elemB:Elem Tryz.prog 87 5 (.int .u8 0) 1:=⟨Tryz.underlying87,by kernel_rfl,rfl,by decide⟩
def BytesR (l:List UInt8) (w:World) (e:Ending) (w' : World):Prop :=
 ∃ u,e=.returned u∧w'.ownsRow w.heap.size 5 1 u l.length (Lib.byteCells l)∧Below w.heap.size w w'
theorem bytes_one (l:List UInt8):∀ u∈Lib.byteCells l,u.oneCell'=true:=by
 intro u hu
 obtain ⟨x,_,rfl⟩:=List.mem_map.1 hu
 rfl
theorem join_snoc {a:List Word} {w:Word} : Lib.join (a++[w]) [32]=if a=[] then w else Lib.join a [32]++[32]++w:=by
 cases a with
 | nil=>simp [Lib.join_one]
 | cons y r =>
  rw [if_neg (by simp),List.cons_append,Lib.join_cons,Lib.join_cons]
  simp [Lib.joinTail]
def soFar (x:List ByteArray) (k:Nat):List UInt8:=Lib.join ((unW x).take k) [32]
theorem soFar_zero (x:List ByteArray):soFar x 0=[]:=rfl
theorem soFar_next {x:List ByteArray} {k:Nat} (h:k < x.length):soFar x (k+1)=if k=0 then un x[k] else soFar x k++[32]++un x[k]:=by
 unfold soFar
 have h2:k < (unW x).length:=by simpa using h
 rw [List.take_succ_eq_append_getElem h2,join_snoc]
 simp only [List.getElem_map]
 by_cases e:k=0
 ·rw [if_pos e,if_pos (by rw [e];rfl)]
 ·rw [if_neg e,if_neg]
  intro h0
  have:=congrArg List.length h0
  rw [List.length_take,List.length_map] at this
  simp only [List.length_nil] at this
  omega
theorem soFar_all (x:List ByteArray):soFar x x.length++[10]=lineT (unW x):=by
 unfold soFar lineT
 rw [List.take_of_length_le (by simp)]
theorem soFar_len (x:List ByteArray) (k:Nat):(soFar x k).length≤szL (unW x):=by
 by_cases h:(unW x).take k=[]
 ·unfold soFar;rw [h];simp [Lib.join_nil]
 ·have h1:=lineT_length h
  have h2:=szL_take_le (unW x) k
  unfold lineT at h1
  rw [List.length_append] at h1
  unfold soFar
  omega

theorem line_calls (va:Value) (x:List ByteArray) (w:World) (hl:StrsAt w va x) (hs:∀ y∈x,y.size≤1000000) (hz:szL (unW x)≤1000000) (hn:x.length≤1000000) :
  Calls Tryz.prog 49 #[va] w (BytesR (lineT (unW x)) w):=by
 obtain ⟨i0,hi0,hz0,hz1,hz2⟩:=info_parts elemB.info
 have HA:=hid hl
 obtain ⟨ao,ac,rfl,hla⟩:=hl.slice
 have HSI:=hid hs
 have HLE:=hid (fun k=>Nat.le_trans (soFar_len x k) hz)
 have HAL:=hid (soFar_all x)
 clear hl hs
 go_enter Tryz.func49,Tryz.ntmps49
 go_wp2
 go_loopg [3,4] x.length (fun gk u iv wr=>∃ i:Nat,i+gk=x.length∧iv=.int .i64 i∧Hid (wr.ownsRow w.heap.size 5 1 u (soFar x i).length (Lib.byteCells (soFar x i)))∧Below w.heap.size w wr)
 case atStart=>exact ⟨0,by omega,rfl,World.ownsRow_nil _ _ _ _,Below.refl _ _⟩
 case round =>
  obtain ⟨i,hi,rfl,HO,hbe⟩:=hrel
  have HI:=hid hi
  have hle:=HLE.out i
  by_cases hlt:i < x.length
  ·obtain ⟨b,o,rfl,hb0,hc⟩:=(HA.out.below hbe).at i hlt
   have hys:=HSI.out _ (List.getElem_mem hlt)
   have HN:=hid (soFar_next hlt)
   have HX2:Hid (∀ w2,Below w.heap.size w w2→w2.cell? ⟨b,o+i,none⟩=some (.string x[i])):=fun w2 hb2=>by
    obtain ⟨b',o',e,_,h⟩:=(HA.out.below hb2).at i hlt
    cases e
    exact h
   have hul:=un_len x[i]
   clear hi
   by_cases h0:i=0
   ·subst h0
    rw [Nat.add_zero] at hc
    have HE:Hid (Lib.byteCells (soFar x 0)++Lib.strCells x[0]=Lib.byteCells (soFar x (0+1))):=by
     show _=_
     rw [HN.out,if_pos rfl,Lib.strCells_eq];rfl
    have HEL:Hid ((soFar x 0).length+x[0].size=(soFar x (0+1)).length):=by
     show _=_
     rw [HN.out,if_pos rfl,← hul];simp [soFar_zero]
    generalize Lib.byteCells (soFar x 0)=bs at *
    generalize (soFar x 0).length=m at *
    generalize x[0]=y at *
    have hsz:=hbe.size
    have hnp:¬ (0:Int) < 0:=by omega
    clear HN
    go_wp2_with (at_builtin;refine Lib.wpList_append_own_string _ rfl (.tmp 16) (.tmp 20) 87 9 rfl w.heap.size 5 i0 Tryz.underlying87 Tryz.underlying9 hi0 hz0 hz1 hz2 u3 m bs rfl HO.out y rfl ?c3 ?c4 hsz ?_)
    case c3=>unfold maxLen;omega
    case c4=>omega
    intro v3 w3 hown3 hgr3 _
    have HO3:Hid (w3.ownsRow w.heap.size 5 1 v3 (soFar x (0+1)).length (Lib.byteCells (soFar x (0+1)))):=by
     show World.ownsRow _ _ _ _ _ _ _
     rw [← HE.out,← HEL.out];exact hown3
    have HB3:=hid (own_grown hbe HO.out hgr3 hsz)
    clear hown3 hgr3 hc
    go_wp2
    go_roundg (gk - 1)
    case measure=>have:=HI.out;omega
    case rel=>exact ⟨0+1,by have:=HI.out;omega,by go_num,HO3,HB3.out⟩
   ·have hpos:(0:Int) < (i:Int):=by omega
    have HE:Hid (Lib.byteCells (soFar x i)++[.int .u8 32]++Lib.strCells x[i]=Lib.byteCells (soFar x (i+1))):=by
     show _=_
     rw [HN.out,if_neg h0,Lib.strCells_eq,Lib.byteCells_append,Lib.byteCells_append];rfl
    have HEL:Hid ((soFar x i).length+1+x[i].size=(soFar x (i+1)).length):=by
     show _=_
     rw [HN.out,if_neg h0,← hul];simp only [List.length_append,List.length_cons,List.length_nil]
    generalize Lib.byteCells (soFar x i)=bs at *
    generalize (soFar x i).length=m at *
    generalize x[i]=y at *
    have hO1:Hid ((wr.alloc (.cells #[.int .u8 32] 5)).ownsRow w.heap.size 5 1 u3 m bs):=HO.out.alloc _
    have HCE:Hid ((wr.alloc (.cells #[.int .u8 32] 5)).cell? ⟨wr.heap.size,0,none⟩=some (.int .u8 32)):=by show _=_;simp
    have hltw:wr.heap.size < (wr.alloc (.cells #[.int .u8 32] 5)).heap.size:=by simp
    have HB1:=hid (hbe.alloc hbe.size (.cells #[.int .u8 32] 5))
    have HXB:=hid (HA.out.below hbe)
    have hsz:=HB1.out.size
    clear HN
    go_wp2_with (at_builtin;refine wpList_append_one rfl (.tmp 13) (.tmp 14) elemB rfl w.heap.size u3 rfl m bs hO1.out (by omega) wr.heap.size (.int .u8 32) rfl HCE.out hltw rfl hsz ?_)
    intro v2 w2 hown2 hgr
    have HO2:=hid hown2
    have HB2:=hid (own_grown HB1.out hO1.out hgr hsz)
    have hc2:=HX2.out w2 HB2.out
    have hsz2:=HB2.out.size
    clear hown2 hgr hO1 HCE HB1 hc
    go_wp2_with (at_builtin;refine Lib.wpList_append_own_string _ rfl (.tmp 16) (.tmp 20) 87 9 rfl w.heap.size 5 i0 Tryz.underlying87 Tryz.underlying9 hi0 hz0 hz1 hz2 v2 (m+1) (bs++[.int .u8 32]) rfl HO2.out y rfl ?c3 ?c4 hsz2 ?_)
    case c3=>unfold maxLen;omega
    case c4=>omega
    intro v3 w3 hown3 hgr3 _
    have HO3:Hid (w3.ownsRow w.heap.size 5 1 v3 (soFar x (i+1)).length (Lib.byteCells (soFar x (i+1)))):=by
     show World.ownsRow _ _ _ _ _ _ _
     rw [← HE.out,← HEL.out,List.append_assoc];exact hown3
    have HB3:=hid (own_grown HB2.out HO2.out hgr3 hsz2)
    clear hown3 hgr3 hc2
    go_wp2
    go_roundg (gk - 1)
    case measure=>have:=HI.out;omega
    case rel=>exact ⟨i+1,by have:=HI.out;omega,by go_num,HO3,HB3.out⟩
  ·obtain rfl:i=x.length:=by omega
   have HE:Hid (Lib.byteCells (soFar x x.length)++[.int .u8 10]=Lib.byteCells (lineT (unW x))):=by
    show _=_
    rw [← HAL.out,Lib.byteCells_append];rfl
   have HEL:Hid ((soFar x x.length).length+1=(lineT (unW x)).length):=by
    show _=_
    rw [← HAL.out,List.length_append];rfl
   generalize Lib.byteCells (soFar x x.length)=bs at *
   generalize (soFar x x.length).length=m at *
   have hO1:Hid ((wr.alloc (.cells #[.int .u8 10] 5)).ownsRow w.heap.size 5 1 u3 m bs):=HO.out.alloc _
   have HCE:Hid ((wr.alloc (.cells #[.int .u8 10] 5)).cell? ⟨wr.heap.size,0,none⟩=some (.int .u8 10)):=by show _=_;simp
   have hltw:wr.heap.size < (wr.alloc (.cells #[.int .u8 10] 5)).heap.size:=by simp
   have HB1:=hid (hbe.alloc hbe.size (.cells #[.int .u8 10] 5))
   have hsz:=HB1.out.size
   clear hi
   go_wp2_with (at_builtin;refine wpList_append_one rfl (.tmp 22) (.tmp 23) elemB rfl w.heap.size u3 rfl m bs hO1.out (by omega) wr.heap.size (.int .u8 10) rfl HCE.out hltw rfl hsz ?_)
   intro v2 w2 hown2 hgr
   rw [HE.out,HEL.out] at hown2
   have HO2:=hid hown2
   have HB2:=hid (own_grown HB1.out hO1.out hgr hsz)
   clear hown2 hgr hO1 HCE HB1
   go_wp2
   go_ret
   exact ⟨_,rfl,HO2.out,HB2.out⟩

theorem bytes_back {w:World} {v:Value} {l:List UInt8} (h:ListAt w v (Lib.byteCells l)):(convert 87 9 v).run Tryz.prog w=.ok (.string ⟨l.toArray⟩) w:=by
 obtain ⟨ao,cap,rfl,_,hm,hz,_⟩:=h
 rw [Lib.byteCells_length]
 cases ao with
 | none =>
  have hl0:l=[]:=by
   by_cases hp:0 < l.length
   ·obtain ⟨b,off,hb,_⟩:=hm (by rw [Lib.byteCells_length];exact hp)
    cases hb
   ·exact List.eq_nil_of_length_eq_zero (by omega)
  subst hl0
  exact run_convert_bytes_nil w 87 5 Tryz.underlying87 Tryz.underlying5 _ _ 9 Tryz.underlying9
 | some a =>
  refine run_convert_bytes_back (P:=Tryz.prog) w 87 9 5 a cap l Tryz.underlying87 Tryz.underlying5 Tryz.underlying9 fun j hj=>?_
  obtain ⟨b,off,e,_,hc⟩:=hm (by rw [Lib.byteCells_length];omega)
  cases e
  have:=hc j (by rw [Lib.byteCells_length];exact hj)
  rw [show (⟨b,off,none⟩:Addr).add j=⟨b,off+j,none⟩ by unfold Addr.add;split<;>simp_all,this]
  simp [Lib.byteCells]

theorem jnR_long {l:List (List ByteArray)} (h:l.any badL=false) {i:Nat} (hg:16384 < (textT ((unL l).take (i+1))).length):jnE (unL l)=4:=by
 refine jn_great h ?_
 rw [textT_length (l:=(unL l).take (i+1)) (fun x hx=>by
  obtain ⟨y,hy,rfl⟩:=List.mem_map.1 (List.mem_of_mem_take hx)
  have:=List.any_eq_false.1 h y hy
  rw [badL_odd] at this
  exact (oddL_false.1 (by simpa using this)).1)] at hg
 have:=szT_take_le (unL l) (i+1)
 omega
theorem text_next {l:List (List ByteArray)} {i:Nat} (h:i < l.length):textT ((unL l).take (i+1))=textT ((unL l).take i)++lineT (unW l[i]):=by
 have h2:i < (unL l).length:=by simpa using h
 rw [List.take_succ_eq_append_getElem h2,textT_append,textT_one]
 simp only [List.getElem_map]
theorem line_le {x:List ByteArray} : (lineT (unW x)).length≤szL (unW x)+1:=by
 by_cases h:unW x=[]
 ·rw [h];simp [lineT,Lib.join_nil]
 ·rw [lineT_length h];omega

theorem joinR_calls (va:Value) (l:List (List ByteArray)) (w:World) (hl:LinesAt w va l) (hf:Fits l) :
  Calls Tryz.prog 27 #[va] w (JnR l w):=by
 have HC:=hid (mayAll_calls va l w hl hf)
 have HA:=hid hl
 obtain ⟨ao,ac,rfl,hla⟩:=hl.slice
 have HF:=hid hf
 have HO:=hid (fun (h:l.any badL=true)=>jnE_odd (l:=unL l) (by rw [← any_bad];exact h))
 have HLG:=hid (@jn_long l)
 have HGR:=hid (@jnR_long l)
 have HFI:=hid (@jn_fine l)
 have hall:=hf.all
 clear hl hf
 generalize hgb:l.any badL=gb at *
 cases gb with
 | true =>
  have HE:=hid (HO.out rfl)
  clear HO HLG HGR HFI hgb
  go_enter Tryz.func27,Tryz.ntmps27
  go_wp2_with fail
  refine HC.out.mono ?_
  rintro e w1 ⟨rfl,hb⟩
  go_wp2
  go_ret2
  exact JnR.no HE.out (by decide) hb
 | false =>
  have HLG2:=hid (fun (i:Nat) (hi:i < l.length) hx=>HLG.out rfl (i:=i) hi hx)
  have HGR2:=hid (fun (i:Nat) hx=>HGR.out rfl (i:=i) hx)
  have HFI2:=hid (HFI.out rfl)
  have HTX:=hid (textT_length (l:=unL l) (fun x hx=>by
   have h:=hgb
   rw [any_bad] at h
   exact (oddL_false.1 (by simpa using List.any_eq_false.1 h x hx)).1))
  clear HO HLG HGR HFI hgb
  go_enter Tryz.func27,Tryz.ntmps27
  go_wp2_with fail
  refine HC.out.mono ?_
  rintro e w1 ⟨rfl,hb⟩
  clear HC
  go_wp2
  go_loopg [4,5] l.length (fun gk u iv wr=>∃ i:Nat,i+gk=l.length∧iv=.int .i64 i∧Hid (wr.ownsRow w.heap.size 5 1 u (textT ((unL l).take i)).length (Lib.byteCells (textT ((unL l).take i))))∧(textT ((unL l).take i)).length≤16384∧Hid (∀ j (h:j < l.length),j < i→l[j].length≤64)∧Below w.heap.size w wr)
  case atStart=>exact ⟨0,by omega,rfl,World.ownsRow_nil _ _ _ _,by simp [textT],(fun j h h2=>by omega),hb⟩
  case round =>
   obtain ⟨i,hi,rfl,HOW,htl,HS,hbe⟩:=hrel
   have HI:=hid hi
   by_cases hlt:i < l.length
   ·obtain ⟨b,o,pv,rfl,hb0,hc0,hp0⟩:=HA.out.at i hlt
    have HCX:Hid (∀ w2,Below w.heap.size w w2→w2.cell? ⟨b,o+i,none⟩=some pv):=fun w2 hb2=>(hb2.cell (p:=⟨b,_,none⟩) hb0).trans hc0
    have HSX:Hid (l[i].length≤64→∀ j (h:j < l.length),j < i+1→l[j].length≤64):=fun h j hj h2=>by
     by_cases e:j=i
     ·subst e;exact h
     ·exact HS.out j hj (by omega)
    have HLO:=hid (HLG2.out i hlt)
    have HGO:=hid (HGR2.out i)
    have HTN:=hid (text_next hlt)
    have hsl:=szT_take_le (unL l) (i+1)
    rw [szT_snoc hlt] at hsl
    have hxw:=HF.out.words _ (List.getElem_mem hlt)
    have HLN:=hid (line_calls pv l[i] wr (hp0.below hbe) (HF.out.size _ (List.getElem_mem hlt)) (by omega) (by omega))
    have hll:=line_le (x:=l[i])
    rw [HTN.out] at HGO
    have HTE:Hid (Lib.byteCells (textT ((unL l).take i))++Lib.byteCells (lineT (unW l[i]))=Lib.byteCells (textT ((unL l).take (i+1)))):=by
     show _=_
     rw [HTN.out,Lib.byteCells_append]
    have HTL:Hid ((textT ((unL l).take i)).length+(lineT (unW l[i])).length=(textT ((unL l).take (i+1))).length):=by
     show _=_
     rw [HTN.out,List.length_append]
    rw [List.length_append] at HGO
    obtain ⟨pa,pc,rfl,hpl⟩:=hp0.slice
    generalize lineT (unW l[i])=L at *
    generalize l[i]=x at *
    have hxl2:L.length≤900001:=by omega
    have hc:=HCX.out wr hbe
    clear hi hp0 hc0 hll hsl HTN
    generalize (textT ((unL l).take i)).length=n at *
    generalize Lib.byteCells (textT ((unL l).take i))=bs at *
    go_wp2_with fail
    refine HLN.out.mono ?_
    rintro e w2 ⟨v,rfl,hv,hb2⟩
    have HB2:=hid (hbe.trans (hb2.mono hbe.size))
    have HO2:=hid (ownsRow_below HOW.out hb2)
    have HV:=hid (list_of_owns hv (by rw [Lib.byteCells_length];omega))
    have HV1:=hid (bytes_one L)
    have hsz:=HB2.out.size
    have hblen:(Lib.byteCells L).length=L.length:=Lib.byteCells_length L
    clear hv hb2 HLN hc
    generalize Lib.byteCells L=lb at *
    generalize L.length=ll at *
    go_wp2_with (at_builtin;refine wpList_append_list rfl (.tmp 15) (.tmp 20) elemB rfl w.heap.size u4 rfl n bs HO2.out (by omega) v lb rfl HV.out HV1.out (by omega) hsz ?_)
    intro u3 w3 hown3 hgr
    have HB3:=hid (own_grown HB2.out HO2.out hgr hsz)
    have HO3:=hid hown3
    have hc:=HCX.out w3 HB3.out
    obtain ⟨ua,uc,rfl⟩:=own_slice hown3
    have HBF:=HB3.out
    clear hown3 hgr HO2 HB2 HV HV1 hblen
    by_cases h64:64 < x.length
    ·have HE:=hid (HLO.out h64)
     go_wp2
     go_ret2
     exact JnR.no HE.out (by decide) HBF
    ·have HS2:=hid (HSX.out (by omega))
     by_cases hg:16384 < n+ll
     ·have HE:=hid (HGO.out hg)
      go_wp2
      go_ret2
      exact JnR.no HE.out (by decide) HBF
     ·rw [HTE.out,HTL.out] at HO3
      have hn2:=HTL.out
      go_wp2
      go_roundg (gk - 1)
      case measure=>have:=HI.out;omega
      case rel=>exact ⟨i+1,by have:=HI.out;omega,by go_num,hn2 ▸ HO3,by omega,HS2,HBF⟩
   ·obtain rfl:i=l.length:=by omega
    have e:(unL l).take l.length=unL l:=List.take_of_length_le (by simp)
    rw [e] at HOW htl
    have HE:=hid (HFI2.out (fun x hx=>by
     obtain ⟨k,hk,rfl⟩:=List.getElem_of_mem hx
     exact HS.out k hk hk) (by rw [← HTX.out];exact htl))
    have hbk:=bytes_back (list_of_owns HOW.out (by rw [Lib.byteCells_length];omega))
    obtain ⟨ua,uc,rfl⟩:=own_slice HOW.out
    clear hi e HS HLG2 HGR2 HFI2 HTX hall
    go_wp2
    go_ret2
    exact JnR.yes HE.out hbe
end Go.Proofs.YtbebficgcemkoaaGreatDoor.LxV
