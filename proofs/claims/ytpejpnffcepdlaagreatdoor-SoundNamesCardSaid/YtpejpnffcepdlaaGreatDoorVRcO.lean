/- Walk over the reader's op: a table of words. -/
import Derived.Test.YtpejpnffcepdlaaGreatDoorVRcPToRdP
import Derived.Deep.MidRow
import Derived.Deep.LoopGhost
import Derived.Laws.PanicsMore
set_option maxRecDepth 100000
set_option maxHeartbeats 16000000
namespace Go.Proofs.YtpejpnffcepdlaaGreatDoor.RcO
open Go.RowKit Go.Lib TyM TyP ShM ShP ShB IntO SetP LxM LxJ LxY RwO RdM RdN RdV RdB Aft RcP RcA RcB RcC

variable {W:World} {b:Nat} {L:List Ln} {ws:Ln} {reg:Int} {tv:Value} {w:World}

def wdN (k:Nat):ByteArray:=⟨(wordsL.getD k []).toArray⟩
def opsV:List Value:=wordsL.map fun s=>.string ⟨s.toArray⟩
theorem opsV_at {k:Nat} (h:k < 23):opsV[k]?=some (.string (wdN k)):=by
 unfold opsV wdN
 have hl:k < wordsL.length:=h
 rw [List.getElem?_map,List.getElem?_eq_getElem hl,List.getD_eq_getElem?_getD,List.getElem?_eq_getElem hl]
 rfl
def TabO (w:World):Prop:=w.rangeAt 3 0 opsV
theorem TabO.cell {w:World} (h:TabO w) {k:Nat} (hk:k < 23):w.cell? ⟨3,k,none⟩=some (.string (wdN k)):=by
 have:=h k _ (opsV_at hk)
 rwa [Nat.zero_add] at this
theorem TabO.on {w w1:World} (h:TabO w) (hb:Below w.heap.size w w1):TabO w1:=fun j v hj=>keep_below hb (h j v hj)
theorem TabO.kept {w w1:World} (h:TabO w) {E:List Nat} (hk:Kept E w w1) (hE:3∉E):TabO w1:=fun j v hj=>hk.cell (h j v hj) hE
theorem opC_at {s:List UInt8} {k:Nat} (hk:k < 23) (hw:wordsL.getD k []=s) (hb:∀ j,j < k→wordsL.getD j []≠s):opC s=some k:=by
 by_cases hs:s=[]
 ·have h0:k=0:=by
   by_cases h0:k=0
   ·exact h0
   ·exact absurd (by rw [hs];rfl) (hb 0 (by omega))
  unfold opC
  rw [if_pos hs,h0]
 ·have h1:1≤k:=by
   by_cases h0:k=0
   ·subst h0;exact absurd hw.symm hs
   ·omega
  exact opC_some hs (op_at h1 hk hw (fun j _ hj=>hb j hj)) (by omega)
theorem opC_off {s:List UInt8} (hb:∀ j,j < 23→wordsL.getD j []≠s):opC s=none:=by
 have hs:s≠[]:=fun h=>hb 0 (by omega) (by rw [h];rfl)
 unfold opC
 rw [if_neg hs,if_pos (op_none (fun j _ hj=>hb j hj))]
theorem wdN_ne {k:Nat} {s:ByteArray} (h:wordsL.getD k []≠un s):((wdN k).toList == s.toList)=false:=by
 rw [Lib.toList_data,Lib.toList_data]
 exact beq_eq_false_iff_ne.2 h
theorem wdN_eq {k:Nat} {s:ByteArray} (h:wordsL.getD k []=un s):((wdN k).toList == s.toList)=true:=by
 rw [Lib.toList_data,Lib.toList_data]
 exact beq_iff_eq.2 h
theorem run_index_arr {P:Program} (t e:TypeId) (n:Nat) (cs:Array Value) (i:Nat) (v:Value) (w:World) (h:P.underlying t=some (.array n e)) (hs:(sizeOf e).run P w=.ok 1 w) (ha:(isAgg e).run P w=.ok false w) (hi:i < n) (hv:cs[i]?=some v) :
  (Instr.index t (.agg cs) (.int .i64 i)).run P w=.ok v w:=by
 simp [Instr.index,run_underlying h,asIntOf,hv,hi,hs,ha,go_sem,Result.andThen]
theorem isAggStr (w:World):(isAgg 9).run Tryz.prog w=.ok false w:=by kernel_rfl
theorem sizeStrO (w:World):(sizeOf 9).run Tryz.prog w=.ok 1 w:=by kernel_rfl
theorem infoArr:(Tryz.prog.info? 302).map (·.size)=some opsV.length:=by kernel_rfl
theorem underArr:Tryz.prog.underlying 302=some (.array 23 9):=by kernel_rfl
theorem u8_wrapN {k:Nat} (h:k < 23):IntKind.u8.wrap (k:Int)=(k:Int):=by
 show ((k:Int)) % 256=_
 omega
def wordsV (wd:Nat→ByteArray):List Value:=(List.range 23).map fun j=>.string (wd j)
theorem wordsV_at (wd:Nat→ByteArray) {k:Nat} (hk:k < 23):(wordsV wd)[k]?=some (.string (wd k)):=by
 unfold wordsV
 simp [hk]
theorem wordsV_len (wd:Nat→ByteArray):(wordsV wd).length=23:=by simp [wordsV]
theorem infoArr2 (wd:Nat→ByteArray):(Tryz.prog.info? 302).map (·.size)=some (wordsV wd).length:=by
 rw [wordsV_len]
 exact infoArr
def OpO (W:World) (b:Nat) (L:List Ln) (ws:Ln) (reg:Int) (tv:Value) (o:Option Nat) (w:World) (e:Ending) (w' : World):Prop:=match o with
 | some k=>Goes W b L ws reg tv (.int .u8 k) w e w'
 | none=>Out b w e w'
theorem op_core (wd:Nat→ByteArray) (oc:Option Nat) {x:ByteArray} (h:Rdr W b L (x :: ws) reg tv w) (hc:∀ j,j < 23→W.cell? ⟨3,j,none⟩=some (.string (wd j)))
  (hoff:(∀ j,j < 23→((wd j).toList == x.toList)=false)→oc=none) (hat:∀ k,k < 23→((wd k).toList == x.toList)=true→(∀ j,j < k→((wd j).toList == x.toList)=false)→oc=some k) :
  Calls Tryz.prog 207 #[.pointer (some ⟨b,0,none⟩)] w (OpO W b L ws reg tv oc w):=by
 have HWD:=hid (word_yes h)
 have HOFF:=hid hoff
 have HAT:=hid hat
 unfold Goes at HWD
 have HT:=hid hc
 clear h hc hoff hat
 go_enter Tryz.func207,Tryz.ntmps207
 go_wp2_with fail
 refine HWD.out.mono ?_
 rintro e w1 ⟨rfl,hr1,hk1⟩
 have ht1:∀ j,j < 23→w1.cell? ⟨3,j,none⟩=some (.string (wd j)):=fun j hj=>by
  have:=HT.out j hj
  exact (hr1.be.cell (World.block_lt_of_cell? W _ this)).trans this
 have hrg:w1.rangeAt 3 0 (wordsV wd):=fun j v hj=>by
  have hlt:j < 23:=by
   have:=(List.getElem?_eq_some_iff.1 hj).1
   rwa [wordsV_len] at this
  rw [wordsV_at wd hlt] at hj
  cases hj
  rw [Nat.zero_add]
  exact ht1 j hlt
 have HRG:=hid hrg
 have HIX:=hid (fun (k:Nat) (hk:k < 23) wx=>run_index_arr (P:=Tryz.prog) 302 9 23 (wordsV wd).toArray k (.string (wd k)) wx underArr (sizeStrO wx) (isAggStr wx) hk (by simpa using wordsV_at wd hk))
 have HIN:=hid (infoArr2 wd)
 have HR1:=hid hr1
 have HK1:=hid hk1
 clear hr1 hk1 HWD HT ht1 hrg
 generalize wordsV wd=wl at *
 go_wp2_with (refine wpList_load_mid rfl 302 _ rfl 3 0 rfl wl _ HRG.out underArr rfl HIN.out ?_)
 clear HRG HIN
 generalize wl.toArray=A at *
 go_loopg [4,5,9] 23 (fun gk _ _ i wr=>∃ k:Nat,k+gk=23∧i=.int .i64 k∧wr=w1∧∀ j,j < k→((wd j).toList == x.toList)=false)
 case atStart=>exact ⟨0,rfl,rfl,rfl,fun j hj=>by omega⟩
 case round =>
  obtain ⟨k,hk,rfl,rfl,hb⟩:=hrel
  have HK:=hid hk
  have HB:=hid hb
  clear hk hb
  by_cases hlt:k < 23
  ·have hix:=HIX.out k hlt
   have hk2:(k:Int) < 23:=by omega
   have hu8:IntKind.u8.wrap (k:Int)=k:=by
    exact u8_wrapN hlt
   cases he:((wd k).toList == x.toList) with
   | true =>
    have HO:=hid (HAT.out k hlt he HB.out)
    clear HAT HOFF HIX HK HB hlt
    generalize wd k=y at *
    go_wp2
    go_ret
    show OpO _ _ _ _ _ _ _ _ _ _
    rw [HO.out]
    exact ⟨rfl,HR1.out,HK1.out⟩
   | false =>
    have HB2:Hid (∀ j,j < k+1→((wd j).toList == x.toList)=false):=fun j hj=>by
     rcases Nat.lt_or_ge j k with h | h
     ·exact HB.out j h
     ·obtain rfl:j=k:=by omega
      exact he
    clear HAT HOFF HIX HB
    generalize wd k=y at *
    go_wp2
    go_roundg (gk - 1)
    case measure=>have:=HK.out;omega
    case rel=>exact ⟨k+1,by have:=HK.out;omega,by go_num,rfl,HB2.out⟩
  ·obtain rfl:k=23:=by have:=HK.out;omega
   have HO:=hid (HOFF.out HB.out)
   clear HAT HOFF HIX HK HB hlt
   go_wp2
   refine ⟨rfl,?_⟩
   show OpO _ _ _ _ _ _ _ _ _ _
   rw [HO.out]
   exact ⟨rfl,HK1.out⟩
theorem op_calls {x:ByteArray} (h:Rdr W b L (x :: ws) reg tv w) (ht:TabO W):Calls Tryz.prog 207 #[.pointer (some ⟨b,0,none⟩)] w (OpO W b L ws reg tv (opC (un x)) w):=by
 have hne:∀ j,((wdN j).toList == x.toList)=false→wordsL.getD j []≠un x:=fun j h e=>by rw [wdN_eq e] at h;cases h
 have heq:∀ j,((wdN j).toList == x.toList)=true→wordsL.getD j []=un x:=fun j h=>by
  by_cases e:wordsL.getD j []=un x
  ·exact e
  ·rw [wdN_ne e] at h;cases h
 exact op_core wdN (opC (un x)) h (fun j hj=>ht.cell hj) (fun hb=>opC_off fun j hj=>hne j (hb j hj)) (fun k hk hm hb=>opC_at hk (heq k hm) fun j hj=>hne j (hb j hj))
theorem op_nil (h:Rdr W b L [] reg tv w):Calls Tryz.prog 207 #[.pointer (some ⟨b,0,none⟩)] w (Out b w):=by
 have HWD:=hid (word_no h)
 unfold Out at HWD
 clear h
 go_enter Tryz.func207,Tryz.ntmps207
 go_wp2_with fail
 refine HWD.out.mono ?_
 rintro e w1 ⟨rfl,hk1⟩
 go_wp2
 exact ⟨rfl,rfl,hk1⟩
theorem op_yes {k:Nat} {ws' : Ln} (h:Rdr W b L ws reg tv w) (ht:TabO W) (hm:opL ws=some (k,ws')):Calls Tryz.prog 207 #[.pointer (some ⟨b,0,none⟩)] w (Goes W b L ws' reg tv (.int .u8 k) w):=by
 cases ws with
 | nil=>cases hm
 | cons x l =>
  have:=op_calls h ht
  simp only [opL] at hm
  cases ho:opC (un x) with
  | none=>rw [ho] at hm;cases hm
  | some j=>rw [ho] at hm this;cases hm;exact this
theorem op_no (h:Rdr W b L ws reg tv w) (ht:TabO W) (hm:opL ws=none):Calls Tryz.prog 207 #[.pointer (some ⟨b,0,none⟩)] w (Out b w):=by
 cases ws with
 | nil=>exact op_nil h
 | cons x l =>
  have:=op_calls h ht
  simp only [opL] at hm
  cases ho:opC (un x) with
  | none=>rw [ho] at this;exact this
  | some j=>rw [ho] at hm;cases hm
end Go.Proofs.YtpejpnffcepdlaaGreatDoor.RcO
