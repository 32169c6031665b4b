/- Walks over fescueref08.mark and marks. -/
import Derived.Test.YtbebficgcemkoaaGreatDoorYRdAToWkA
import Derived.Test.YtbebficgcemkoaaGreatDoorYNumRPToNumH
import Derived.Test.YtbebficgcemkoaaGreatDoorYRgZToRgY
import Derived.Test.YtbebficgcemkoaaGreatDoorYIntOToAft
import Derived.Deep.RegionWith
import Derived.Deep.Cut
import Derived.Deep.DeepCutAuto
import Derived.Lib.BufferWrite
set_option maxRecDepth 100000
set_option maxHeartbeats 16000000
namespace Go.Proofs.YtbebficgcemkoaaGreatDoor.WvM
open Go.RowKit Go.Lib IntO SetP TyM TyP ShM LxM LxP LxJ RwO RgZ NumP WrM WkM Aft


theorem bcell2 {W w1:World} (hb:Below W.heap.size W w1):(∀ b o,b < W.heap.size→w1.cell? ⟨b,o,none⟩=W.cell? ⟨b,o,none⟩)∧(∀ b o,b < W.heap.size→w1.frozen? ⟨b,o,none⟩=W.frozen? ⟨b,o,none⟩) :=
 ⟨fun b o h=>hb.cell (p:=⟨b,o,none⟩) h,fun b o h=>hb.frozen (p:=⟨b,o,none⟩) h⟩
theorem conv_at (w:World) (b:Nat) (c:UInt8) (hc:w.cell? ⟨b,0,none⟩=some (.int .u8 (c.toNat:Int))) :
  (convert 87 9 (.slice (some ⟨b,0,none⟩) 1 1)).run Tryz.prog w=.ok (.string ⟨#[c]⟩) w:=by
 have h:=run_convert_bytes_back (P:=Tryz.prog) w 87 9 5 ⟨b,0,none⟩ 1 [c] Tryz.underlying87 Tryz.underlying5 Tryz.underlying9 (by
  intro j hj
  have:j=0:=by simpa using hj
  subst this
  exact hc)
 simpa using h
theorem mark_calls (c:UInt8) (n:Int) (hn:I64 n) (w:World) :
  Calls Tryz.prog 51 #[.int .u8 (c.toNat:Int),.int .i64 n] w fun e w'=>e=.returned (.string (mkw c n))∧Below w.heap.size w w':=by
 have HW:=hid (NumW.write_calls n hn)
 have hl:=(itoa_length n hn).2
 have hcv:=fun wx b h=>conv_at wx b c h
 have hadd:∀ wx,(Op.stringOp .add ⟨#[c]⟩ ⟨(itoa n).toArray⟩).run Tryz.prog wx=.ok (.string (mkw c n)) wx:=fun wx=>run_string_add_lists wx [c] (itoa n) (by simp) (by omega)
 clear hn
 go_enter Tryz.func51,Tryz.ntmps51
 go_upto_region 1 with fail
 go_region_with (go_at_call 105;refine (HW.out _).mono ?_;rintro e u2 ⟨rfl,b2⟩;obtain ⟨hcx,hfx⟩:=bcell2 b2)
 all_goals
  have B:=Below.refl w.heap.size w
  go_wp2
  go_ret
  refine ⟨rfl,?_⟩
  first
   | exact (B.drew.trans (b2.mono B.size)).alloc (Nat.le_trans B.size b2.size) _
   | exact ((B.alloc B.size _).drew).trans (b2.mono (Nat.le_trans B.size (by simp)))
   | exact (((B.alloc B.size _).drew).drew).trans (b2.mono (Nat.le_trans B.size (by simp)))
def KeepT (w w' : World):Prop:=∀ (j:Nat) (cs:Array Value) (ty:TypeId) (fr:Nat × Nat),¬ ty=9→w.heap[j]?=some (.cells cs ty fr)→w'.heap[j]?=some (.cells cs ty fr)
theorem KeepT.refl (w:World):KeepT w w:=fun _ _ _ _ _ h=>h
theorem KeepT.trans {a b c:World} (h:KeepT a b) (k:KeepT b c):KeepT a c:=fun j cs ty fr ht e=>k j cs ty fr ht (h j cs ty fr ht e)
theorem KeepT.below {w w' : World} (hb:Below w.heap.size w w'):KeepT w w':=fun j _ _ _ _ e=>(hb.block j (Array.getElem?_eq_some_iff.1 e).1).trans e
theorem KeepT.grown {w w' : World} {u:Value} {B n s:Nat} {xs:List Value} (ho:w.ownsRow B 9 s u n xs) (hg:w.grownBy w' u.ownBlock):KeepT w w':=fun j cs ty fr ht e=>(hg.block j (Array.getElem?_eq_some_iff.1 e).1 (fun e1=>by
 obtain ⟨cs2,fr2,h3⟩:=own_typed ho _ e1.symm
 rw [e] at h3
 simp at h3
 exact ht h3.2.1)).trans e
theorem KeepT.ints {w w' : World} {B n:Nat} {v:Value} {xs:List Value} (h:w.ownsRow B 3 1 v n xs) (k:KeepT w w'):w'.ownsRow B 3 1 v n xs:=by
 obtain ⟨h1,h2⟩:=h
 refine ⟨h1,?_⟩
 rcases h2 with h2 | ⟨g,cap,cur,hv,hg,hh,r⟩
 ·exact .inl h2
 ·exact .inr ⟨g,cap,cur,hv,hg,k g _ _ _ (by decide) hh,r⟩
def MarksR (ws ns:List ByteArray) (B:Nat) (w:World) (e:Ending) (w' : World):Prop:=∃ u,e=.returned u∧w'.ownsRow B 9 1 u (ws++ns).length (strs (ws++ns))∧Below B w w'
theorem marks_calls (v:Value) (ws:List ByteArray) (c:UInt8) (lv:Value) (l:List Int) (B:Nat) (w:World) (ho:w.ownsRow B 9 1 v ws.length (strs ws)) (hB:B≤w.heap.size) (hl:IntsAt w lv l) (hlB:∀ wx,Below B w wx→KeepT w wx→IntsAt wx lv l) (hi:∀ n∈l,I64 n) (hws:ws.length≤10000) (hln:l.length≤10000) :
  Calls Tryz.prog 104 #[v,.int .u8 (c.toNat:Int),lv] w (MarksR ws (l.map (mkw c)) B w):=by
 obtain ⟨la,lc,rfl,_⟩:=TyP.ints_slice hl
 have HMC:=hid (fun n hn wx=>mark_calls c n hn wx)
 have HLB:=hid hlB
 have HI:=hid hi
 have HWS:=hid hws
 have HLN:=hid hln
 have HBW:=hid hB
 have HTK:Hid (∀ k (h:k < l.length),(l.take (k+1)).map (mkw c)=(l.take k).map (mkw c)++[mkw c l[k]]):=fun k h=>by
  rw [List.take_succ_eq_append_getElem h,List.map_append];rfl
 have HO0:Hid (w.ownsRow B 9 1 v (ws++(l.take 0).map (mkw c)).length (strs (ws++(l.take 0).map (mkw c)))):=by
  rw [List.take_zero,List.map_nil,List.append_nil];exact ho
 have hb0:=Below.refl B w
 have hk0:=KeepT.refl w
 clear ho hB hl hlB hi hws hln
 generalize c.toNat=cn at *
 go_enter Tryz.func104,Tryz.ntmps104
 go_wp2
 go_loopg [0,7] l.length (fun gk u i wr=>∃ k:Nat,k+gk=l.length∧i=.int .i64 k∧Hid (wr.ownsRow B 9 1 u (ws++(l.take k).map (mkw c)).length (strs (ws++(l.take k).map (mkw c))))∧Below B w wr∧KeepT w wr)
 case atStart=>exact ⟨0,by omega,rfl,HO0,hb0,hk0⟩
 case round =>
  obtain ⟨k,hk,rfl,HO,hw,hkt⟩:=hrel
  have HKT:=hid hkt
  have HK:=hid hk
  clear hk HO0 hb0 hk0 hkt
  by_cases hlt:k < l.length
  rotate_left
  ·have htk:l.take k=l:=List.take_of_length_le (by omega)
   have HO2:=hid HO.out
   rw [htk] at HO2
   obtain rfl:k=l.length:=by have:=HK.out;omega
   obtain ⟨pa,pc,h0⟩:=own_form HO2.out
   subst h0
   have HF:Hid (MarksR ws (l.map (mkw c)) B w (.returned (.slice pa (ws++l.map (mkw c)).length pc)) wr):=⟨_,rfl,HO2.out,hw⟩
   clear HO HO2 HTK HLB HI HMC hlt htk HK
   generalize (ws++l.map (mkw c)).length=nn at *
   generalize l.length=n1 at *
   go_wp2
   go_ret
   exact HF.out
  obtain ⟨b1,o1,rfl,hb1,d1⟩:=TyP.ints_at (HLB.out wr hw HKT.out) k hlt
  have HT:=hid (HTK.out k hlt)
  have HC:=hid (HMC.out l[k] (HI.out _ (List.getElem_mem hlt)) wr)
  have HK2:Hid (gk=l.length - k∧k < l.length):=⟨by have:=HK.out;omega,hlt⟩
  have HNL:Hid ((ws++(l.take k).map (mkw c)).length≤1000000):=by
   have:=HWS.out;have:=HLN.out
   show (ws++(l.take k).map (mkw c)).length≤1000000
   rw [List.length_append,List.length_map,List.length_take];omega
  have hki:(k:Int) < l.length:=by omega
  clear HTK HMC HI HK
  generalize l[k]=x at *
  clear hlt
  have hnn:l.length≤9223372036854775807:=by have:=HLN.out;omega
  generalize l.length=n1 at *
  generalize hLW:ws++(l.take k).map (mkw c)=LW at *
  have HLW:=hid hLW
  clear hLW
  go_wp2_with fail
  refine HC.out.mono ?_
  rintro e w5 ⟨rfl,hb5⟩
  have HO5:=hid (LxP.ownsRow_below HO.out (hb5.trans (LxP.alloc_below w5 (.cells #[.string (mkw c x)] 9) |>.mono hb5.size)))
  have h5:=hw.trans (hb5.mono (Nat.le_trans HBW.out hw.size))
  have h6:=h5.alloc (Nat.le_trans HBW.out h5.size) (.cells #[.string (mkw c x)] 9)
  have HK6:=hid (HKT.out.trans ((KeepT.below hb5).trans (KeepT.below (LxP.alloc_below w5 (.cells #[.string (mkw c x)] 9)))))
  have hcc:(w5.alloc (.cells #[.string (mkw c x)] 9)).cell? ⟨w5.heap.size,0,none⟩=some (.string (mkw c x)):=(ShTB.cells_heap (heap_alloc_new w5 _)).1 0 (by simp)
  have HCC:=hid hcc
  have hsz:B≤(w5.alloc (.cells #[.string (mkw c x)] 9)).heap.size:=Nat.le_trans HBW.out h6.size
  have hltw:w5.heap.size < (w5.alloc (.cells #[.string (mkw c x)] 9)).heap.size:=by rw [World.size_alloc];omega
  have hnl:=HNL.out
  clear HC hcc hb5 h5 d1 hw HO
  generalize mkw c x=sx at *
  go_wp2_with (at_builtin;refine wpList_append_one rfl (.tmp 14) (.tmp 21) elemS rfl B _ rfl LW.length (strs LW) HO5.out hnl w5.heap.size (.string sx) rfl HCC.out hltw rfl hsz ?_)
  intro v6 w6 hown6 hgr6
  have HO6:Hid (w6.ownsRow B 9 1 v6 (LW++[sx]).length (strs (LW++[sx]))):=by
   show w6.ownsRow B _ 1 v6 _ _
   rw [List.length_append]
   simpa [strs] using hown6
  have h7:=h6.grown hgr6 hsz (fun g hg=>(HO5.out.lt g hg).1)
  have HK7:=hid (HK6.out.trans (KeepT.grown HO5.out hgr6))
  clear hown6 hgr6 HO5 HCC hsz hltw hnl h6
  go_wp2
  go_roundg (gk - 1)
  case measure=>have:=HK2.out;omega
  case rel=>exact ⟨k+1,by have:=HK2.out;omega,by go_num,by rw [HT.out,← List.append_assoc,HLW.out];exact HO6,h7,HK7.out⟩
end Go.Proofs.YtbebficgcemkoaaGreatDoor.WvM
