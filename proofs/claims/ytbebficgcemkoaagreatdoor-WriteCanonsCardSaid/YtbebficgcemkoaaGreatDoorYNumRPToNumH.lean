/- What Read answers, of a call. What Small answers: 'sm'. Walks over fescueref01.Write: it answers the decimal text of its number. Walk over fescueref01.Read: it answers 'rd'. Walk over fescueref01.Small: it answers 'sm'. -/
import Derived.Test.YtbebficgcemkoaaGreatDoorRows
import Derived.Test.YtbebficgcemkoaaGreatDoorYNumQ
import Derived.WalkKit
import Derived.WalkSmall
import Derived.WalkSpells
import Derived.WalkLawsBesides
import Derived.Outline
import Derived.Lib.Hide
import Derived.Below
import Derived.Test.YtbebficgcemkoaaGreatDoorYNumP
set_option maxRecDepth 100000
set_option maxHeartbeats 16000000
namespace Go.Proofs.YtbebficgcemkoaaGreatDoor.NumR
open Go.RowKit Go.Lib NumP NumQ

def RdPost (l:List UInt8) (w:World) (e:Ending) (w' : World):Prop :=
 e=.returned (.tuple #[.int .i64 (rd l).1,.int .i64 (rd l).2])∧Below w.heap.size w w'

theorem rdpost_none {l:List UInt8} {w w' : World} (h:rd l=(0,10)) (hb:Below w.heap.size w w'):RdPost l w (.returned (.tuple #[.int .i64 0,.int .i64 10])) w':=⟨by rw [h],hb⟩
end Go.Proofs.YtbebficgcemkoaaGreatDoor.NumR
namespace Go.Proofs.YtbebficgcemkoaaGreatDoor.NumG
open Go.RowKit Go.Lib NumP NumQ NumR

def sm (l:List UInt8) (most:Int):Int × Int :=
 if most < 0∨1000000 < most then (0,2)
 else if (rd l).2=0∧0≤(rd l).1∧(rd l).1≤most then ((rd l).1,0) else (0,10)
def SmPost (l:List UInt8) (most:Int) (w:World) (e:Ending) (w' : World):Prop :=
 e=.returned (.tuple #[.int .i64 (sm l most).1,.int .i64 (sm l most).2])∧Below w.heap.size w w'
theorem sm_big {l:List UInt8} {most:Int} (h:most < 0∨1000000 < most):sm l most=(0,2):=by unfold sm;rw [if_pos h]
theorem sm_ok {l:List UInt8} {most:Int} (h:¬ (most < 0∨1000000 < most)) (h2:(rd l).2=0∧0≤(rd l).1∧(rd l).1≤most):sm l most=((rd l).1,0):=by unfold sm;rw [if_neg h,if_pos h2]
theorem sm_no {l:List UInt8} {most:Int} (h:¬ (most < 0∨1000000 < most)) (h2:¬ ((rd l).2=0∧0≤(rd l).1∧(rd l).1≤most)):sm l most=(0,10):=by unfold sm;rw [if_neg h,if_neg h2]
end Go.Proofs.YtbebficgcemkoaaGreatDoor.NumG
namespace Go.Proofs.YtbebficgcemkoaaGreatDoor.NumW
open Go.RowKit Go.Lib NumP

def WRel (n0 m:Int) (t:List UInt8):Prop :=
 I64 n0∧I64 m∧(0 < m→0 < n0)∧(m < 0→n0 < 0)∧((m=0∧t=decDigits n0.natAbs)∨(m≠0∧decDigits m.natAbs++t=decDigits n0.natAbs))

theorem conv1 (w:World) (x:Int) (h0:0≤x) (h1:x≤255) :
  (convert 87 9 (.slice (some ⟨w.heap.size,0,none⟩) 1 1)).run Tryz.prog (w.alloc (.cells #[.int .u8 x] 5))=.ok (.string ⟨#[UInt8.ofNat x.toNat]⟩) (w.alloc (.cells #[.int .u8 x] 5)):=by
 have h:=run_convert_bytes_back (P:=Tryz.prog) (w.alloc (.cells #[.int .u8 x] 5)) 87 9 5 ⟨w.heap.size,0,none⟩ 1 [UInt8.ofNat x.toNat] Tryz.underlying87 Tryz.underlying5 Tryz.underlying9 (by
  intro j hj
  have:j=0:=by simpa using hj
  subst this
  simp only [List.getElem_cons_zero]
  rw [ofNat_toNat (by omega),Int.toNat_of_nonneg h0]
  simp [Addr.add])
 simpa using h

def dch (u:Nat):UInt8:=UInt8.ofNat (48+u % 10)
theorem WRel.step {n0 m:Int} {t:List UInt8} (h:WRel n0 m t) (hm:m≠0):WRel n0 (m.tdiv 10) (dch m.natAbs :: t)∧t.length≤18:=by
 obtain ⟨hn0,hi,h1,h2,h3⟩:=h
 have ha:=hi.1
 have hb:=hi.2
 rcases h3 with ⟨h0,_⟩ | ⟨_,h3⟩
 ·exact absurd h0 hm
 have hl:=dec_length_pos m.natAbs
 have hl2:=congrArg List.length h3
 have hl3:(decDigits n0.natAbs).length≤19:=digs_le n0 hn0
 rw [List.length_append] at hl2
 have hna:(m.tdiv 10).natAbs=m.natAbs / 10:=by rw [Int.natAbs_tdiv];rfl
 have hneg:m < 0→m.tdiv 10≤0∧-922337203685477581≤m.tdiv 10:=by
  intro hlt
  obtain ⟨u,rfl⟩:∃ u:Nat,m = -(u:Int):=⟨m.natAbs,by omega⟩
  rw [Int.neg_tdiv,Int.tdiv_eq_ediv_of_nonneg (by omega)];omega
 have hpos:0≤m→m.tdiv 10=m / 10:=fun h=>Int.tdiv_eq_ediv_of_nonneg h
 refine ⟨⟨hn0,⟨?_,?_⟩,?_,?_,?_⟩,by omega⟩
 ·by_cases hlt:m < 0
  ·have:=hneg hlt;omega
  ·rw [hpos (by omega)];omega
 ·by_cases hlt:m < 0
  ·have:=hneg hlt;omega
  ·rw [hpos (by omega)];omega
 ·intro h
  by_cases hlt:m < 0
  ·have:=hneg hlt;omega
  ·exact h1 (by omega)
 ·intro h
  by_cases hlt:m < 0
  ·exact h2 hlt
  ·rw [hpos (by omega)] at h;omega
 ·have hdd:decDigits m.natAbs=if m.natAbs < 10 then [dch m.natAbs] else decDigits (m.natAbs / 10)++[dch m.natAbs]:=by
   by_cases h10:m.natAbs < 10
   ·rw [if_pos h10,dec_small h10,dch,show m.natAbs % 10=m.natAbs by omega]
   ·rw [if_neg h10,dec_big h10,dch]
  rw [← h3,hdd]
  by_cases h10:m.natAbs < 10
  ·refine .inl ⟨by omega,?_⟩
   rw [if_pos h10];rfl
  ·refine .inr ⟨by omega,?_⟩
   rw [if_neg h10,hna];simp

theorem q34x1 {P:Prop} (h:P:=by
 go_wp2
 go_roundw
 case rel=>exact ⟨m.tdiv 10,dm :: t,by go_num,rfl,hst,hb.alloc hb.size _⟩
 case measure=>simpa [intOf] using hnm):P:=h
theorem write_calls (n:Int) (hn:I64 n) (w:World) :
  Calls Tryz.prog 105 #[.int .i64 n] w fun e w'=>e=.returned (.string ⟨(itoa n).toArray⟩)∧Below w.heap.size w w':=by
 have h1:=hn.1
 have h2:=hn.2
 by_cases h0:n=0
 ·subst h0
  go_enter Tryz.func105,Tryz.ntmps105
  go_wp2
  go_ret
  exact ⟨by rw [itoa_nn (by omega)];simp [dec_zero],Below.refl _ _⟩
 ·have h0' : (n == 0)=false:=by simpa using h0
  by_cases hneg:n < 0
  all_goals
   go_enter Tryz.func105,Tryz.ntmps105
   go_wp2
   go_loopw [0,4] (fun a b wr=>∃ (m:Int) (t:List UInt8),a=.int .i64 m∧b=.string ⟨t.toArray⟩∧WRel n m t∧Below w.heap.size w wr) (fun a _ _=>(intOf a).natAbs)
   case atStart=>exact ⟨n,[],rfl,rfl,⟨hn,hn,by omega,by omega,.inr ⟨h0,by simp⟩⟩,Below.refl _ _⟩
   case round =>
    obtain ⟨m,t,rfl,rfl,hr,hb⟩:=hrel
    have hm:=hr.2.1.1
    have hm2:=hr.2.1.2
    by_cases hm0:m=0
    ·subst hm0
     have ht:t=decDigits n.natAbs:=by
      rcases hr.2.2.2.2 with ⟨_,h⟩ | ⟨h,_⟩
      ·exact h
      ·exact absurd rfl h
     have hl:t.length≤19:=by rw [ht];exact digs_le n hn
     have ha1:∀ wx,(Op.stringOp .add ⟨#[45]⟩ ⟨t.toArray⟩).run Tryz.prog wx=.ok (.string ⟨(45 :: t).toArray⟩) wx:=fun wx=>run_string_add_lists wx [45] t (by simp) (by omega)
     have ha2:∀ wx,(Op.stringOp .add ⟨#[]⟩ ⟨t.toArray⟩).run Tryz.prog wx=.ok (.string ⟨t.toArray⟩) wx:=fun wx=>run_string_add_lists wx [] t (by simp) (by omega)
     have hi1:n < 0→itoa n=45 :: t:=fun h=>by rw [itoa_ng h,ht]
     have hi2:0≤n→itoa n=t:=fun h=>by rw [itoa_nn h,ht,natAbs_toNat h]
     have HI1:=hid hi1;have HI2:=hid hi2
     clear hi1 hi2 ht
     go_wp2
     go_ret
     first
      | exact ⟨(show Ending.returned (.string ⟨(45 :: t).toArray⟩)=_ from by rw [HI1.out (by assumption)]),hb⟩
      | exact ⟨(show Ending.returned (.string ⟨t.toArray⟩)=_ from by rw [HI2.out (by omega)]),hb⟩
    ·have hst:=hr.step hm0
     obtain ⟨hst,htl⟩:=hst
     have hm1:(m != 0)=true:=by simpa using hm0
     have hadd:∀ wx,(Op.stringOp .add ⟨#[dch m.natAbs]⟩ ⟨t.toArray⟩).run Tryz.prog wx=.ok (.string ⟨(dch m.natAbs :: t).toArray⟩) wx:=fun wx=>run_string_add_lists wx [dch m.natAbs] t (by simp) (by omega)
     obtain ⟨d,hd⟩:∃ d:Nat,d=m.natAbs % 10:=⟨_,rfl⟩
     have hd9:d≤9:=by omega
     have hch:dch m.natAbs=UInt8.ofNat (48+d):=by unfold dch;rw [hd]
     have hch1:UInt8.ofNat (48+(d:Int)).toNat=dch m.natAbs:=by rw [hch,show (48+(d:Int)).toNat=48+d by omega]
     have hch2:d=0→UInt8.ofNat (48 + -(d:Int)).toNat=dch m.natAbs:=by intro h;rw [hch,show (48 + -(d:Int)).toNat=48+d by omega]
     have hc:=fun wx=>conv1 wx (48+(d:Int)) (by omega) (by omega)
     rw [hch1] at hc
     generalize hdm:dch m.natAbs=dm at *
     have hnm:(m.tdiv 10).natAbs < m.natAbs:=by rw [Int.natAbs_tdiv];show m.natAbs / 10 < _;omega
     by_cases hmn:m < 0
     ·have hmod:m.tmod 10 = -(d:Int):=by
       rw [hd]
       obtain ⟨u,rfl⟩:∃ u:Nat,m = -(u:Int):=⟨m.natAbs,by omega⟩
       rw [Int.neg_tmod,Int.tmod_eq_emod_of_nonneg (by omega)];omega
      clear hd hch hch1
      by_cases hd0:d=0
      ·have hc2:=fun wx=>conv1 wx (48 + -(d:Int)) (by omega) (by omega)
       rw [hch2 hd0] at hc2
       clear hc hch2
       have hd1:¬ 0 < (d:Int):=by omega
       clear hd0
       exact q34x1
      ·have hd1:0 < (d:Int):=by omega
       clear hd0 hch2
       exact q34x1
     ·have hmod:m % 10=(d:Int):=by omega
      clear hd hch hch1 hch2
      exact q34x1
end Go.Proofs.YtbebficgcemkoaaGreatDoor.NumW
namespace Go.Proofs.YtbebficgcemkoaaGreatDoor.NumR
open Go.RowKit Go.Lib NumP NumQ NumW

theorem q31x1 {P:Prop} (h:P:=by
 rw [HG.out k hlt] at hsn
 have hvs:val (seg s.data.toList (atOf s.data.toList) (k+1))=10 * val (seg s.data.toList (atOf s.data.toList) k)+(s[k].toNat - 48):=by rw [hsn,val_snoc]
 have HV:=hid hvs
 have HS:=hid hsn
 clear hvs hsn
 have hvl3:val (seg s.data.toList (atOf s.data.toList) k) < 10 ^ 18:=by
  refine Nat.lt_of_lt_of_le hvl (Nat.pow_le_pow_right (by decide) (by rw [HA.out];omega))
 clear hvl hvl2
 have hvl4:((val (seg s.data.toList (atOf s.data.toList) k):Nat):Int)≤1000000000000000000:=by
  have:(10:Nat) ^ 18=1000000000000000000:=by decide
  omega
 clear hvl3
 by_cases hdg:isDig s[k]=true
 ·have hdg1:=(isDig_iff _).1 hdg
  obtain ⟨hd1,hd2⟩:=hdg1
  clear hdg
  generalize hv:val (seg s.data.toList (atOf s.data.toList) k)=v at *
  clear hv
  go_wp2
  go_round
  case rel=>exact ⟨k+1,by omega,by omega,by go_num,by rw [HV.out];go_num,by
   rw [HS.out]
   intro c hc
   rcases List.mem_append.1 hc with h | h
   ·exact HD.out c h
   ·rw [List.mem_singleton.1 h,isDig_iff];exact ⟨hd1,hd2⟩⟩
  case measure=>simp [intOf];omega
 ·have hdg1:isDig s[k]=false:=by simpa using hdg
  have hd:=(isDig_false _).1 hdg1
  have hrd:=rd_nondig hk1 (by rw [HL.out];exact hlt) (by rw [HG.out k hlt];exact hdg1)
  have HR:=hid hrd
  clear hrd hdg1 hdg
  go_wp2
  all_goals
   go_ret2
   exact rdpost_none HR.out (Below.refl _ _)):P:=h
theorem q31x2 {P:Prop} (h:P:=by
 have hMi:I64 M:=by rw [← hM];exact wrap64_i64 _
 clear hM
 refine (write_calls M hMi w).mono ?_
 rintro e w1 ⟨rfl,hb⟩
 go_wp2
 ·have hq:(!itoa M == s.toList)=true:=by assumption
  go_ret2
  refine rdpost_none ?_ hb
  rw [HR.out,if_neg]
  rw [ByteArray.toList_eq] at hq
  simpa using hq
 ·have hq:(!itoa M == s.toList)=false:=by assumption
  go_ret2
  refine ⟨?_,hb⟩
  rw [HR.out,if_pos]
  ·rfl
  ·rw [ByteArray.toList_eq] at hq
   simpa using hq):P:=h
theorem read_neg (s:ByteArray) (hs:s.size≤9223372036854775807) (w:World) (h1:¬ s.size < 1) (h2:¬ 20 < s.size) (h0:0 < s.size) (hat:atOf s.data.toList=if s[0].toNat=45 then 1 else 0)
  (HG:Hid (∀ k (h:k < s.size),s.data.toList.getD k 0=s[k])) (HL:Hid (s.data.toList.length=s.size)) (h45:s[0].toNat=45) :
  Calls Tryz.prog 162 #[.string s] w (RdPost s.data.toList w):=by
 have ha:atOf s.data.toList=1:=by rw [hat,if_pos h45]
 have h45' : ((s[0].toNat:Int) == 45)=true:=by simp;omega
 have HA:=hid ha
 clear ha hat
 ·go_enter Tryz.func162,Tryz.ntmps162
  go_wp2
  go_loop [5,6] (fun x i=>∃ k:Nat,atOf s.data.toList≤k∧k≤s.size∧i=.int .i64 k∧x=.int .u64 (val (seg s.data.toList (atOf s.data.toList) k))∧∀ c∈seg s.data.toList (atOf s.data.toList) k,isDig c=true) (fun _ i=>s.size - (intOf i).toNat)
  case atStart=>exact ⟨1,by rw [HA.out];omega,by omega,rfl,by rw [HA.out,seg_nil];rfl,by rw [HA.out,seg_nil];simp⟩
  case round =>
   obtain ⟨k,hk1,hk2,rfl,rfl,hdig⟩:=hrel
   have hvl:=val_le _ hdig
   rw [seg_length _ _ _ (by rw [HL.out];omega)] at hvl
   have hvl2:10 ^ (k - atOf s.data.toList)≤10 ^ 19:=Nat.pow_le_pow_right (by decide) (by rw [HA.out];omega)
   have HD:=hid hdig
   clear hdig
   by_cases hlt:k < s.size
   ·have hsn:=seg_snoc hk1 (by rw [HL.out];omega)
    exact q31x1
   ·obtain rfl:k=s.size:=by omega
    have hrf:=rd_fin s.data.toList
    rw [← seg_all,HL.out] at hrf
    have hfin:fin (atOf s.data.toList) (val (seg s.data.toList (atOf s.data.toList) s.size))=wrap64 (-wrap64 ↑(val (seg s.data.toList (atOf s.data.toList) s.size))):=by rw [HA.out,fin_one]
    rw [hfin] at hrf
    have HR:=hid hrf
    clear hrf hfin
    go_wp2_with fail
    generalize hM:wrap64 (-wrap64 ↑(val (seg s.data.toList (atOf s.data.toList) s.size)))=M at *
    exact q31x2


theorem read_pos (s:ByteArray) (hs:s.size≤9223372036854775807) (w:World) (h1:¬ s.size < 1) (h2:¬ 20 < s.size) (h0:0 < s.size) (hat:atOf s.data.toList=if s[0].toNat=45 then 1 else 0)
  (HG:Hid (∀ k (h:k < s.size),s.data.toList.getD k 0=s[k])) (HL:Hid (s.data.toList.length=s.size)) (h45:¬ s[0].toNat=45) :
  Calls Tryz.prog 162 #[.string s] w (RdPost s.data.toList w):=by
 have ha:atOf s.data.toList=0:=by rw [hat,if_neg h45]
 have h45' : ((s[0].toNat:Int) == 45)=false:=by simp;omega
 have HA:=hid ha
 clear ha hat
 by_cases h19:19 < s.size
 ·go_enter Tryz.func162,Tryz.ntmps162
  go_wp2
  go_ret2
  exact rdpost_none (rd_long2 (by rw [HA.out,HL.out];omega)) (Below.refl _ _)
 ·go_enter Tryz.func162,Tryz.ntmps162
  go_wp2
  go_loop [5,6] (fun x i=>∃ k:Nat,atOf s.data.toList≤k∧k≤s.size∧i=.int .i64 k∧x=.int .u64 (val (seg s.data.toList (atOf s.data.toList) k))∧∀ c∈seg s.data.toList (atOf s.data.toList) k,isDig c=true) (fun _ i=>s.size - (intOf i).toNat)
  case atStart=>exact ⟨0,by rw [HA.out];omega,by omega,rfl,by rw [HA.out,seg_nil];rfl,by rw [HA.out,seg_nil];simp⟩
  case round =>
   obtain ⟨k,hk1,hk2,rfl,rfl,hdig⟩:=hrel
   have hvl:=val_le _ hdig
   rw [seg_length _ _ _ (by rw [HL.out];omega)] at hvl
   have hvl2:10 ^ (k - atOf s.data.toList)≤10 ^ 19:=Nat.pow_le_pow_right (by decide) (by rw [HA.out];omega)
   have HD:=hid hdig
   clear hdig
   by_cases hlt:k < s.size
   ·have hsn:=seg_snoc hk1 (by rw [HL.out];omega)
    exact q31x1
   ·obtain rfl:k=s.size:=by omega
    have hrf:=rd_fin s.data.toList
    rw [← seg_all,HL.out] at hrf
    have hfin:fin (atOf s.data.toList) (val (seg s.data.toList (atOf s.data.toList) s.size))=wrap64 ↑(val (seg s.data.toList (atOf s.data.toList) s.size)):=by rw [HA.out,fin_zero]
    rw [hfin] at hrf
    have HR:=hid hrf
    clear hrf hfin
    go_wp2_with fail
    generalize hM:wrap64 ↑(val (seg s.data.toList (atOf s.data.toList) s.size))=M at *
    exact q31x2


theorem read_calls (s:ByteArray) (hs:s.size≤9223372036854775807) (w:World) :
  Calls Tryz.prog 162 #[.string s] w (RdPost s.data.toList w):=by
 have hlen:s.data.toList.length=s.size:=Array.length_toList
 by_cases h1:s.size < 1
 ·go_enter Tryz.func162,Tryz.ntmps162
  go_wp2
  go_ret2
  exact rdpost_none (rd_long (by omega)) (Below.refl _ _)
 by_cases h2:20 < s.size
 ·go_enter Tryz.func162,Tryz.ntmps162
  go_wp2
  go_ret2
  exact rdpost_none (rd_long (by omega)) (Below.refl _ _)
 have h0:0 < s.size:=by omega
 have hhd:s.data.toList.headD 0=s[0]:=by
  have e:s.data.toList=s[0] :: s.data.toList.tail:=by
   have:=List.cons_head_tail (l:=s.data.toList) (by intro e;rw [e] at hlen;simp at hlen;omega)
   rw [← this]
   simp [List.head_eq_getElem];rfl
  rw [e];rfl
 have hat:atOf s.data.toList=if s[0].toNat=45 then 1 else 0:=by unfold atOf;rw [hhd]
 have hget:∀ k (h:k < s.size),s.data.toList.getD k 0=s[k]:=by
  intro k h
  rw [List.getD_eq_getElem?_getD,List.getElem?_eq_getElem (by omega)];rfl
 have HG:=hid hget
 have HL:=hid hlen
 clear hhd hget hlen
 by_cases h45:s[0].toNat=45
 ·exact read_neg s hs w h1 h2 h0 hat HG HL h45
 ·exact read_pos s hs w h1 h2 h0 hat HG HL h45
end Go.Proofs.YtbebficgcemkoaaGreatDoor.NumR
namespace Go.Proofs.YtbebficgcemkoaaGreatDoor.NumH
open Go.RowKit Go.Lib NumP NumQ NumR NumG

theorem ref_small_calls (s:ByteArray) (hs:s.size≤9223372036854775807) (most:Int) (w:World) :
  Calls Tryz.prog 147 #[.string s,.int .i64 most] w (SmPost s.data.toList most w):=by
 by_cases hneg:most < 0
 ·have H:=hid (sm_big (l:=s.data.toList) (.inl hneg))
  go_enter Tryz.func147,Tryz.ntmps147
  go_wp2
  go_ret2
  exact ⟨by rw [H.out];rfl,Below.refl _ _⟩
 by_cases hbig:1000000 < most
 ·have H:=hid (sm_big (l:=s.data.toList) (.inr hbig))
  go_enter Tryz.func147,Tryz.ntmps147
  go_wp2
  go_ret2
  exact ⟨by rw [H.out];rfl,Below.refl _ _⟩
 have hn:¬ (most < 0∨1000000 < most):=by omega
 have HO:=hid (fun h2=>sm_ok (l:=s.data.toList) hn h2)
 have HN:=hid (fun h2=>sm_no (l:=s.data.toList) hn h2)
 clear hn
 have herr:=rd_err s.data.toList
 have HC:=hid (NumR.read_calls s hs w)
 unfold RdPost at HC
 generalize rd s.data.toList=r at *
 obtain ⟨a,b⟩:=r
 simp only at HO HN herr HC
 go_enter Tryz.func147,Tryz.ntmps147
 go_wp2_with fail
 refine HC.out.mono ?_
 rintro e w1 ⟨rfl,hb⟩
 clear HC
 rcases herr with rfl | rfl
 ·by_cases h0:a < 0
  ·have H:=hid (HN.out (by omega))
   clear HO HN
   go_wp2
   go_ret2
   exact ⟨by rw [H.out];rfl,hb⟩
  by_cases h1:most < a
  ·have H:=hid (HN.out (by omega))
   clear HO HN
   go_wp2
   go_ret2
   exact ⟨by rw [H.out];rfl,hb⟩
  ·have H:=hid (HO.out (by omega))
   clear HO HN
   go_wp2
   go_ret2
   exact ⟨by rw [H.out];rfl,hb⟩
 ·have H:=hid (HN.out (by omega))
  clear HO HN
  go_wp2
  go_ret2
  exact ⟨by rw [H.out];rfl,hb⟩

end Go.Proofs.YtbebficgcemkoaaGreatDoor.NumH
