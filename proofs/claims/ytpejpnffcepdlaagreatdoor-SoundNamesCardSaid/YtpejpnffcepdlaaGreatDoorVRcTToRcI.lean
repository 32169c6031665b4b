/- Walk over the reader's typ. Walk over the reader's end. An instruction's block that the reader fills: stores, rows that grow; which registers an operation has, as shape tells it. Walk over the reader's has. -/
import Derived.Test.YtpejpnffcepdlaaGreatDoorVRcPToRdP
import Derived.Test.YtpejpnffcepdlaaGreatDoorVRdGToRdH
import Derived.Test.YtpejpnffcepdlaaGreatDoorVRgZToRgY
import Derived.Test.YtpejpnffcepdlaaGreatDoorVTyBToTyTI
import Derived.Test.YtpejpnffcepdlaaGreatDoorVShBToShW
import Derived.BigGuardPart
set_option maxRecDepth 100000
set_option maxHeartbeats 16000000
namespace Go.Proofs.YtpejpnffcepdlaaGreatDoor.RcT
open Go.RowKit Go.Lib TyM TyP ShM ShP ShB IntO SetP LxM LxJ LxY RwO RdM RdN RdV RdB RdK Aft RcP RcA RcB RcC RcD
open LxP (LinesAt StrsAt)

variable {W:World} {b:Nat} {L:List Ln} {ws:Ln} {reg:Int} {tv:Value} {w:World}

theorem kept_one {n:Nat} {w W3:World} (h:∀ k,k≠n→W3.heap[k]?=w.heap[k]?) (hb:Below 0 w W3):Kept [n] w W3:=⟨hb.os,hb.tape,hb.output,hb.size,fun k _ hx=>h k (fun e=>hx (by rw [e];simp))⟩
theorem Kept_new {E:List Nat} {n:Nat} {a w W3:World} (h:Kept E a w) (k:Kept [n] w W3) (hn:a.heap.size≤n):Kept E a W3 :=
 ⟨k.os.trans h.os,k.tape.trans h.tape,k.output.trans h.output,Nat.le_trans h.size k.size,fun i hi hE=>(k.block i (Nat.lt_of_lt_of_le hi h.size) (fun hx=>by
  have:=List.mem_singleton.1 hx
  omega)).trans (h.block i hi hE)⟩
theorem Rdr_one {n:Nat} {W3:World} (h:Rdr W b L ws reg tv w) (k:Kept [n] w W3) (hn:W.heap.size≤n) (hb:n≠b):Rdr W b L ws reg tv W3 :=
 h.kept k (fun hx=>hb (List.mem_singleton.1 hx).symm) (by simpa using hn)
def TypO (W:World) (b:Nat) (L:List Ln) (ws:Ln) (reg:Int) (tv:Value) (t:Ty) (w:World) (e:Ending) (w' : World):Prop :=
 ∃ pv,e=.returned (tyV t pv)∧PartsAt w.heap.size w' pv t.parts∧Rdr W b L ws reg tv w'∧Kept [b] w w' 
theorem typ_int {Q:Ending→World→Prop} {x:ByteArray} (h:Rdr W b L (x :: ws) reg tv w) (hx:un x=[105,110,116]) (hy:∀ t ws',typC (x :: ws)=some (t,ws')→∀ e w',TypO W b L ws' reg tv t w e w'→Q e w') (hn:typC (x :: ws)=none→∀ e w',Out b w e w'→Q e w'):Calls Tryz.prog 103 #[.pointer (some ⟨b,0,none⟩)] w (Q):=by
 obtain ⟨r0,hE⟩:∃ r,r=typC (x :: ws):=⟨_,rfl⟩
 rw [← hE] at hy hn
 unfold typC at hE
 simp only at hE
 rw [if_pos hx] at hE
 have HE:=hid hE
 have HY:=hid hy
 have HNN:=hid hn
 clear hE hy hn
 have hlt:=h.lt
 have hWs:=h.be.size
 have HN:Hid ((w.alloc (.cells #[.int .u8 0,.int .i64 0,.int .i64 0,.slice none 0 0] 43)).heap[w.heap.size]?=some (.cells #[.int .u8 0,.int .i64 0,.int .i64 0,.slice none 0 0] 43 (0,0))):=alloc_new _ _
 have hbn:w.heap.size≠b:=by omega
 have HK0:Hid (Kept [b] w (w.alloc (.cells #[.int .u8 0,.int .i64 0,.int .i64 0,.slice none 0 0] 43))):=(Kept.refl [b] w).alloc _
 have HA:=hid (h.on (alloc_below w (.cells #[.int .u8 0,.int .i64 0,.int .i64 0,.slice none 0 0] 43)))
 have q_int:(x.toList == [105,110,116])=true:=by rw [str_eq];exact decide_eq_true hx
 have HWD:=hid (word_yes HA.out)
 unfold Goes at HWD
 clear h hx
 go_enter Tryz.func103,Tryz.ntmps103
 go_wp2_with fail
 refine HWD.out.mono ?_
 rintro e w1 ⟨rfl,hr1,hk1⟩
 have HK1:=hid hk1
 have HR1:=hid hr1
 clear hr1 hk1 HWD HA
 have HQ:=hid (HY.out ⟨1,0,0,[]⟩ ws (by simp only [HE.out]))
 have hn:=(HK1.out).heap HN.out (fun hx=>hbn (List.mem_singleton.1 hx))
 have y0:=cells_of hn 0 _ rfl
 have y1:=cells_of hn 1 _ rfl
 have y2:=cells_of hn 2 _ rfl
 have y3:=cells_of hn 3 _ rfl
 have z0:=(ShTB.cells_heap hn).2 0
 have z1:=(ShTB.cells_heap hn).2 1
 have z2:=(ShTB.cells_heap hn).2 2
 have z3:=(ShTB.cells_heap hn).2 3
 obtain ⟨W3,hW3,hne3,hk3,hb3⟩:=set4_world w1 w.heap.size 43 (.int .u8 0) (.int .i64 0) (.int .i64 0) (.slice none 0 0) (.int .u8 1) (.int .i64 0) (.int .i64 0) (.slice none 0 0) hn
 have HW3:=hid hW3
 have hone:=kept_one hne3 (hb3 0 w1 (Below.refl _ _) (Nat.zero_le _))
 have HR9:=hid (Rdr_one HR1.out hone hWs hbn)
 have HK9:=hid (Kept_new (HK0.out.trans HK1.out) hone (Nat.le_refl _))
 have x0:=cells_of hk3 0 _ rfl
 have x1:=cells_of hk3 1 _ rfl
 have x2:=cells_of hk3 2 _ rfl
 have x3:=cells_of hk3 3 _ rfl
 clear hn hW3 hk3 hb3 hne3 hone
 go_wp2
 (try simp only [Exit.inBlock,Exit.then])
 rw [← HW3.out]
 refine bodyPost_ret (by simp [results,Tryz.results103,go_sem,x0,x1,x2,x3];try rfl) rfl ?_
 exact HQ.out _ _ ⟨_,rfl,parts_none _ _,HR9.out,HK9.out⟩
theorem typ_ptr {Q:Ending→World→Prop} {x:ByteArray} (h:Rdr W b L (x :: ws) reg tv w) (hx:un x=[112,116,114]) (hy:∀ t ws',typC (x :: ws)=some (t,ws')→∀ e w',TypO W b L ws' reg tv t w e w'→Q e w') (hn:typC (x :: ws)=none→∀ e w',Out b w e w'→Q e w'):Calls Tryz.prog 103 #[.pointer (some ⟨b,0,none⟩)] w (Q):=by
 obtain ⟨r0,hE⟩:∃ r,r=typC (x :: ws):=⟨_,rfl⟩
 rw [← hE] at hy hn
 unfold typC at hE
 simp only at hE
 rw [if_neg (by rw [hx];decide),if_pos hx] at hE
 have HE:=hid hE
 have HY:=hid hy
 have HNN:=hid hn
 clear hE hy hn
 have hlt:=h.lt
 have hWs:=h.be.size
 have HN:Hid ((w.alloc (.cells #[.int .u8 0,.int .i64 0,.int .i64 0,.slice none 0 0] 43)).heap[w.heap.size]?=some (.cells #[.int .u8 0,.int .i64 0,.int .i64 0,.slice none 0 0] 43 (0,0))):=alloc_new _ _
 have hbn:w.heap.size≠b:=by omega
 have HK0:Hid (Kept [b] w (w.alloc (.cells #[.int .u8 0,.int .i64 0,.int .i64 0,.slice none 0 0] 43))):=(Kept.refl [b] w).alloc _
 have HA:=hid (h.on (alloc_below w (.cells #[.int .u8 0,.int .i64 0,.int .i64 0,.slice none 0 0] 43)))
 have q_int:(x.toList == [105,110,116])=false:=by rw [str_eq];rw [hx];rfl
 have q_ptr:(x.toList == [112,116,114])=true:=by rw [str_eq];exact decide_eq_true hx
 have HWD:=hid (word_yes HA.out)
 unfold Goes at HWD
 clear h hx
 go_enter Tryz.func103,Tryz.ntmps103
 go_wp2_with fail
 refine HWD.out.mono ?_
 rintro e w1 ⟨rfl,hr1,hk1⟩
 have HK1:=hid hk1
 have HR1:=hid hr1
 clear hr1 hk1 HWD HA
 cases hq:markC 116 ws with
 | none =>
  have HQ:=hid (HNN.out (by simp only [HE.out,hq]))
  have HM:=hid hq
  clear hq
  go_wp2_with fail
  refine (mark_no (c:=116) HR1.out HM.out).mono ?_
  rintro e w8 ⟨rfl,hk⟩
  have HK9:=hid (HK0.out.trans (HK1.out.trans hk))
  go_wp2
  exact ⟨rfl,HQ.out _ _ ⟨rfl,HK9.out⟩⟩
 | some qm =>
  obtain ⟨q,ws2⟩:=qm
  have HM:=hid hq
  clear hq
  go_wp2_with fail
  refine (mark_yes (c:=116) HR1.out HM.out).mono ?_
  rintro e w2 ⟨rfl,hr,hk⟩
  have HK2:=hid (HK1.out.trans hk)
  have HR2:=hid hr
  clear hr hk HR1 HK1
  have HQ:=hid (HY.out ⟨2,q,0,[]⟩ ws2 (by simp only [HE.out,HM.out]))
  have hn:=(HK2.out).heap HN.out (fun hx=>hbn (List.mem_singleton.1 hx))
  have y0:=cells_of hn 0 _ rfl
  have y1:=cells_of hn 1 _ rfl
  have y2:=cells_of hn 2 _ rfl
  have y3:=cells_of hn 3 _ rfl
  have z0:=(ShTB.cells_heap hn).2 0
  have z1:=(ShTB.cells_heap hn).2 1
  have z2:=(ShTB.cells_heap hn).2 2
  have z3:=(ShTB.cells_heap hn).2 3
  obtain ⟨W3,hW3,hne3,hk3,hb3⟩:=set4_world w2 w.heap.size 43 (.int .u8 0) (.int .i64 0) (.int .i64 0) (.slice none 0 0) (.int .u8 2) (.int .i64 q) (.int .i64 0) (.slice none 0 0) hn
  have HW3:=hid hW3
  have hone:=kept_one hne3 (hb3 0 w2 (Below.refl _ _) (Nat.zero_le _))
  have HR9:=hid (Rdr_one HR2.out hone hWs hbn)
  have HK9:=hid (Kept_new (HK0.out.trans HK2.out) hone (Nat.le_refl _))
  have x0:=cells_of hk3 0 _ rfl
  have x1:=cells_of hk3 1 _ rfl
  have x2:=cells_of hk3 2 _ rfl
  have x3:=cells_of hk3 3 _ rfl
  clear hn hW3 hk3 hb3 hne3 hone
  go_wp2
  (try simp only [Exit.inBlock,Exit.then])
  rw [← HW3.out]
  refine bodyPost_ret (by simp [results,Tryz.results103,go_sem,x0,x1,x2,x3];try rfl) rfl ?_
  exact HQ.out _ _ ⟨_,rfl,parts_none _ _,HR9.out,HK9.out⟩
theorem typ_fn {Q:Ending→World→Prop} {x:ByteArray} (h:Rdr W b L (x :: ws) reg tv w) (hx:un x=[102,110]) (hy:∀ t ws',typC (x :: ws)=some (t,ws')→∀ e w',TypO W b L ws' reg tv t w e w'→Q e w') (hn:typC (x :: ws)=none→∀ e w',Out b w e w'→Q e w'):Calls Tryz.prog 103 #[.pointer (some ⟨b,0,none⟩)] w (Q):=by
 obtain ⟨r0,hE⟩:∃ r,r=typC (x :: ws):=⟨_,rfl⟩
 rw [← hE] at hy hn
 unfold typC at hE
 simp only at hE
 rw [if_neg (by rw [hx];decide),if_neg (by rw [hx];decide),if_pos hx] at hE
 have HE:=hid hE
 have HY:=hid hy
 have HNN:=hid hn
 clear hE hy hn
 have hlt:=h.lt
 have hWs:=h.be.size
 have HN:Hid ((w.alloc (.cells #[.int .u8 0,.int .i64 0,.int .i64 0,.slice none 0 0] 43)).heap[w.heap.size]?=some (.cells #[.int .u8 0,.int .i64 0,.int .i64 0,.slice none 0 0] 43 (0,0))):=alloc_new _ _
 have hbn:w.heap.size≠b:=by omega
 have HK0:Hid (Kept [b] w (w.alloc (.cells #[.int .u8 0,.int .i64 0,.int .i64 0,.slice none 0 0] 43))):=(Kept.refl [b] w).alloc _
 have HA:=hid (h.on (alloc_below w (.cells #[.int .u8 0,.int .i64 0,.int .i64 0,.slice none 0 0] 43)))
 have q_int:(x.toList == [105,110,116])=false:=by rw [str_eq];rw [hx];rfl
 have q_ptr:(x.toList == [112,116,114])=false:=by rw [str_eq];rw [hx];rfl
 have q_fn:(x.toList == [102,110])=true:=by rw [str_eq];exact decide_eq_true hx
 have HWD:=hid (word_yes HA.out)
 unfold Goes at HWD
 clear h hx
 go_enter Tryz.func103,Tryz.ntmps103
 go_wp2_with fail
 refine HWD.out.mono ?_
 rintro e w1 ⟨rfl,hr1,hk1⟩
 have HK1:=hid hk1
 have HR1:=hid hr1
 clear hr1 hk1 HWD HA
 cases hq:markC 116 ws with
 | none =>
  have HQ:=hid (HNN.out (by simp only [HE.out,hq]))
  have HM:=hid hq
  clear hq
  go_wp2_with fail
  refine (mark_no (c:=116) HR1.out HM.out).mono ?_
  rintro e w8 ⟨rfl,hk⟩
  have HK9:=hid (HK0.out.trans (HK1.out.trans hk))
  go_wp2
  exact ⟨rfl,HQ.out _ _ ⟨rfl,HK9.out⟩⟩
 | some qm =>
  obtain ⟨q,ws2⟩:=qm
  have HM:=hid hq
  clear hq
  go_wp2_with fail
  refine (mark_yes (c:=116) HR1.out HM.out).mono ?_
  rintro e w2 ⟨rfl,hr,hk⟩
  have HK2:=hid (HK1.out.trans hk)
  have HR2:=hid hr
  clear hr hk HR1 HK1
  cases hq:marksO 116 ws2 with
  | none =>
   have HQ:=hid (HNN.out (by simp only [HE.out,HM.out,hq,Option.map_none]))
   have HM:=hid hq
   clear hq
   go_wp2_with fail
   refine (parts_no HR2.out HM.out).mono ?_
   rintro e w8 ⟨rfl,hk⟩
   have HK9:=hid (HK0.out.trans (HK2.out.trans hk))
   go_wp2
   exact ⟨rfl,HQ.out _ _ ⟨rfl,HK9.out⟩⟩
  | some qm =>
   have HP:=hid hq
   clear hq
   go_wp2_with fail
   refine (parts_yes HR2.out HP.out).mono ?_
   rintro e w3 ⟨u,rfl,hown,hr,hk⟩
   have hsz2:w.heap.size < w2.heap.size:=by have:=HK2.out.size;simp only [World.size_alloc] at this;omega
   have HOWN:=hid hown
   have HSZ:=hid hsz2
   obtain ⟨ua,uc,rfl⟩:=own_slice hown
   have HK3:=hid (HK2.out.trans hk)
   have HR3:=hid hr
   clear hr hk hown HR2 HK2 hsz2
   have HQ:=hid (HY.out ⟨3,q,0,qm⟩ [] (by simp only [HE.out,HM.out,HP.out,Option.map_some]))
   have hn:=(HK3.out).heap HN.out (fun hx=>hbn (List.mem_singleton.1 hx))
   have y0:=cells_of hn 0 _ rfl
   have y1:=cells_of hn 1 _ rfl
   have y2:=cells_of hn 2 _ rfl
   have y3:=cells_of hn 3 _ rfl
   have z0:=(ShTB.cells_heap hn).2 0
   have z1:=(ShTB.cells_heap hn).2 1
   have z2:=(ShTB.cells_heap hn).2 2
   have z3:=(ShTB.cells_heap hn).2 3
   obtain ⟨W3,hW3,hne3,hk3,hb3⟩:=set4_world w3 w.heap.size 43 (.int .u8 0) (.int .i64 0) (.int .i64 0) (.slice none 0 0) (.int .u8 3) (.int .i64 q) (.int .i64 0) (.slice ua qm.length uc) hn
   have HW3:=hid hW3
   have hone:=kept_one hne3 (hb3 0 w3 (Below.refl _ _) (Nat.zero_le _))
   have HR9:=hid (Rdr_one HR3.out hone hWs hbn)
   have HK9:=hid (Kept_new (HK0.out.trans HK3.out) hone (Nat.le_refl _))
   have HPA:=hid ((parts_set (parts_of HOWN.out (Nat.le_refl _)) HSZ.out hne3 (hb3 0 _ (Below.refl _ _) (Nat.zero_le _)).size hn).base (C:=w.heap.size) (by have:=HSZ.out;omega))
   have x0:=cells_of hk3 0 _ rfl
   have x1:=cells_of hk3 1 _ rfl
   have x2:=cells_of hk3 2 _ rfl
   have x3:=cells_of hk3 3 _ rfl
   clear hn hW3 hk3 hb3 hne3 hone
   go_wp2
   (try simp only [Exit.inBlock,Exit.then])
   rw [← HW3.out]
   refine bodyPost_ret (by simp [results,Tryz.results103,go_sem,x0,x1,x2,x3];try rfl) rfl ?_
   exact HQ.out _ _ ⟨_,rfl,HPA.out,HR9.out,HK9.out⟩
theorem typ_st {Q:Ending→World→Prop} {x:ByteArray} (h:Rdr W b L (x :: ws) reg tv w) (hx:un x=[115,116,114,117,99,116]) (hy:∀ t ws',typC (x :: ws)=some (t,ws')→∀ e w',TypO W b L ws' reg tv t w e w'→Q e w') (hn:typC (x :: ws)=none→∀ e w',Out b w e w'→Q e w'):Calls Tryz.prog 103 #[.pointer (some ⟨b,0,none⟩)] w (Q):=by
 obtain ⟨r0,hE⟩:∃ r,r=typC (x :: ws):=⟨_,rfl⟩
 rw [← hE] at hy hn
 unfold typC at hE
 simp only at hE
 rw [if_neg (by rw [hx];decide),if_neg (by rw [hx];decide),if_neg (by rw [hx];decide),if_pos hx] at hE
 have HE:=hid hE
 have HY:=hid hy
 have HNN:=hid hn
 clear hE hy hn
 have hlt:=h.lt
 have hWs:=h.be.size
 have HN:Hid ((w.alloc (.cells #[.int .u8 0,.int .i64 0,.int .i64 0,.slice none 0 0] 43)).heap[w.heap.size]?=some (.cells #[.int .u8 0,.int .i64 0,.int .i64 0,.slice none 0 0] 43 (0,0))):=alloc_new _ _
 have hbn:w.heap.size≠b:=by omega
 have HK0:Hid (Kept [b] w (w.alloc (.cells #[.int .u8 0,.int .i64 0,.int .i64 0,.slice none 0 0] 43))):=(Kept.refl [b] w).alloc _
 have HA:=hid (h.on (alloc_below w (.cells #[.int .u8 0,.int .i64 0,.int .i64 0,.slice none 0 0] 43)))
 have q_int:(x.toList == [105,110,116])=false:=by rw [str_eq];rw [hx];rfl
 have q_ptr:(x.toList == [112,116,114])=false:=by rw [str_eq];rw [hx];rfl
 have q_fn:(x.toList == [102,110])=false:=by rw [str_eq];rw [hx];rfl
 have q_struct:(x.toList == [115,116,114,117,99,116])=true:=by rw [str_eq];exact decide_eq_true hx
 have HWD:=hid (word_yes HA.out)
 unfold Goes at HWD
 clear h hx
 go_enter Tryz.func103,Tryz.ntmps103
 go_wp2_with fail
 refine HWD.out.mono ?_
 rintro e w1 ⟨rfl,hr1,hk1⟩
 have HK1:=hid hk1
 have HR1:=hid hr1
 clear hr1 hk1 HWD HA
 cases hq:marksO 116 ws with
 | none =>
  have HQ:=hid (HNN.out (by simp only [HE.out,hq,Option.map_none]))
  have HM:=hid hq
  clear hq
  go_wp2_with fail
  refine (parts_no HR1.out HM.out).mono ?_
  rintro e w8 ⟨rfl,hk⟩
  have HK9:=hid (HK0.out.trans (HK1.out.trans hk))
  go_wp2
  exact ⟨rfl,HQ.out _ _ ⟨rfl,HK9.out⟩⟩
 | some qm =>
  have HP:=hid hq
  clear hq
  go_wp2_with fail
  refine (parts_yes HR1.out HP.out).mono ?_
  rintro e w2 ⟨u,rfl,hown,hr,hk⟩
  have hsz1:w.heap.size < w1.heap.size:=by have:=HK1.out.size;simp only [World.size_alloc] at this;omega
  have HOWN:=hid hown
  have HSZ:=hid hsz1
  obtain ⟨ua,uc,rfl⟩:=own_slice hown
  have HK2:=hid (HK1.out.trans hk)
  have HR2:=hid hr
  clear hr hk hown HR1 HK1 hsz1
  have HQ:=hid (HY.out ⟨4,0,0,qm⟩ [] (by simp only [HE.out,HP.out,Option.map_some]))
  have hn:=(HK2.out).heap HN.out (fun hx=>hbn (List.mem_singleton.1 hx))
  have y0:=cells_of hn 0 _ rfl
  have y1:=cells_of hn 1 _ rfl
  have y2:=cells_of hn 2 _ rfl
  have y3:=cells_of hn 3 _ rfl
  have z0:=(ShTB.cells_heap hn).2 0
  have z1:=(ShTB.cells_heap hn).2 1
  have z2:=(ShTB.cells_heap hn).2 2
  have z3:=(ShTB.cells_heap hn).2 3
  obtain ⟨W3,hW3,hne3,hk3,hb3⟩:=set4_world w2 w.heap.size 43 (.int .u8 0) (.int .i64 0) (.int .i64 0) (.slice none 0 0) (.int .u8 4) (.int .i64 0) (.int .i64 0) (.slice ua qm.length uc) hn
  have HW3:=hid hW3
  have hone:=kept_one hne3 (hb3 0 w2 (Below.refl _ _) (Nat.zero_le _))
  have HR9:=hid (Rdr_one HR2.out hone hWs hbn)
  have HK9:=hid (Kept_new (HK0.out.trans HK2.out) hone (Nat.le_refl _))
  have HPA:=hid ((parts_set (parts_of HOWN.out (Nat.le_refl _)) HSZ.out hne3 (hb3 0 _ (Below.refl _ _) (Nat.zero_le _)).size hn).base (C:=w.heap.size) (by have:=HSZ.out;omega))
  have x0:=cells_of hk3 0 _ rfl
  have x1:=cells_of hk3 1 _ rfl
  have x2:=cells_of hk3 2 _ rfl
  have x3:=cells_of hk3 3 _ rfl
  clear hn hW3 hk3 hb3 hne3 hone
  go_wp2
  (try simp only [Exit.inBlock,Exit.then])
  rw [← HW3.out]
  refine bodyPost_ret (by simp [results,Tryz.results103,go_sem,x0,x1,x2,x3];try rfl) rfl ?_
  exact HQ.out _ _ ⟨_,rfl,HPA.out,HR9.out,HK9.out⟩
theorem typ_ar {Q:Ending→World→Prop} {x:ByteArray} (h:Rdr W b L (x :: ws) reg tv w) (hx:un x=[97,114,114,97,121]) (hy:∀ t ws',typC (x :: ws)=some (t,ws')→∀ e w',TypO W b L ws' reg tv t w e w'→Q e w') (hn:typC (x :: ws)=none→∀ e w',Out b w e w'→Q e w'):Calls Tryz.prog 103 #[.pointer (some ⟨b,0,none⟩)] w (Q):=by
 obtain ⟨r0,hE⟩:∃ r,r=typC (x :: ws):=⟨_,rfl⟩
 rw [← hE] at hy hn
 unfold typC at hE
 simp only at hE
 rw [if_neg (by rw [hx];decide),if_neg (by rw [hx];decide),if_neg (by rw [hx];decide),if_neg (by rw [hx];decide),if_pos hx] at hE
 have HE:=hid hE
 have HY:=hid hy
 have HNN:=hid hn
 clear hE hy hn
 have hlt:=h.lt
 have hWs:=h.be.size
 have HN:Hid ((w.alloc (.cells #[.int .u8 0,.int .i64 0,.int .i64 0,.slice none 0 0] 43)).heap[w.heap.size]?=some (.cells #[.int .u8 0,.int .i64 0,.int .i64 0,.slice none 0 0] 43 (0,0))):=alloc_new _ _
 have hbn:w.heap.size≠b:=by omega
 have HK0:Hid (Kept [b] w (w.alloc (.cells #[.int .u8 0,.int .i64 0,.int .i64 0,.slice none 0 0] 43))):=(Kept.refl [b] w).alloc _
 have HA:=hid (h.on (alloc_below w (.cells #[.int .u8 0,.int .i64 0,.int .i64 0,.slice none 0 0] 43)))
 have q_int:(x.toList == [105,110,116])=false:=by rw [str_eq];rw [hx];rfl
 have q_ptr:(x.toList == [112,116,114])=false:=by rw [str_eq];rw [hx];rfl
 have q_fn:(x.toList == [102,110])=false:=by rw [str_eq];rw [hx];rfl
 have q_struct:(x.toList == [115,116,114,117,99,116])=false:=by rw [str_eq];rw [hx];rfl
 have q_array:(x.toList == [97,114,114,97,121])=true:=by rw [str_eq];exact decide_eq_true hx
 have HWD:=hid (word_yes HA.out)
 unfold Goes at HWD
 clear h hx
 go_enter Tryz.func103,Tryz.ntmps103
 go_wp2_with fail
 refine HWD.out.mono ?_
 rintro e w1 ⟨rfl,hr1,hk1⟩
 have HK1:=hid hk1
 have HR1:=hid hr1
 clear hr1 hk1 HWD HA
 cases hq:markC 116 ws with
 | none =>
  have HQ:=hid (HNN.out (by simp only [HE.out,hq]))
  have HM:=hid hq
  clear hq
  go_wp2_with fail
  refine (mark_no (c:=116) HR1.out HM.out).mono ?_
  rintro e w8 ⟨rfl,hk⟩
  have HK9:=hid (HK0.out.trans (HK1.out.trans hk))
  go_wp2
  exact ⟨rfl,HQ.out _ _ ⟨rfl,HK9.out⟩⟩
 | some qm =>
  obtain ⟨q,ws2⟩:=qm
  have HM:=hid hq
  clear hq
  go_wp2_with fail
  refine (mark_yes (c:=116) HR1.out HM.out).mono ?_
  rintro e w2 ⟨rfl,hr,hk⟩
  have HK2:=hid (HK1.out.trans hk)
  have HR2:=hid hr
  clear hr hk HR1 HK1
  cases hq:smallC ws2 with
  | none =>
   have HQ:=hid (HNN.out (by simp only [HE.out,HM.out,hq]))
   have HM:=hid hq
   clear hq
   go_wp2_with fail
   refine (small_no HR2.out HM.out).mono ?_
   rintro e w8 ⟨rfl,hk⟩
   have HK9:=hid (HK0.out.trans (HK2.out.trans hk))
   go_wp2
   exact ⟨rfl,HQ.out _ _ ⟨rfl,HK9.out⟩⟩
  | some qm =>
   obtain ⟨m,ws3⟩:=qm
   have HS:=hid hq
   clear hq
   go_wp2_with fail
   refine (small_yes HR2.out HS.out).mono ?_
   rintro e w3 ⟨rfl,hr,hk⟩
   have HK3:=hid (HK2.out.trans hk)
   have HR3:=hid hr
   clear hr hk HR2 HK2
   have HQ:=hid (HY.out ⟨5,q,m,[]⟩ ws3 (by simp only [HE.out,HM.out,HS.out]))
   have hn:=(HK3.out).heap HN.out (fun hx=>hbn (List.mem_singleton.1 hx))
   have y0:=cells_of hn 0 _ rfl
   have y1:=cells_of hn 1 _ rfl
   have y2:=cells_of hn 2 _ rfl
   have y3:=cells_of hn 3 _ rfl
   have z0:=(ShTB.cells_heap hn).2 0
   have z1:=(ShTB.cells_heap hn).2 1
   have z2:=(ShTB.cells_heap hn).2 2
   have z3:=(ShTB.cells_heap hn).2 3
   obtain ⟨W3,hW3,hne3,hk3,hb3⟩:=set4_world w3 w.heap.size 43 (.int .u8 0) (.int .i64 0) (.int .i64 0) (.slice none 0 0) (.int .u8 5) (.int .i64 q) (.int .i64 m) (.slice none 0 0) hn
   have HW3:=hid hW3
   have hone:=kept_one hne3 (hb3 0 w3 (Below.refl _ _) (Nat.zero_le _))
   have HR9:=hid (Rdr_one HR3.out hone hWs hbn)
   have HK9:=hid (Kept_new (HK0.out.trans HK3.out) hone (Nat.le_refl _))
   have x0:=cells_of hk3 0 _ rfl
   have x1:=cells_of hk3 1 _ rfl
   have x2:=cells_of hk3 2 _ rfl
   have x3:=cells_of hk3 3 _ rfl
   clear hn hW3 hk3 hb3 hne3 hone
   go_wp2
   (try simp only [Exit.inBlock,Exit.then])
   rw [← HW3.out]
   refine bodyPost_ret (by simp [results,Tryz.results103,go_sem,x0,x1,x2,x3];try rfl) rfl ?_
   exact HQ.out _ _ ⟨_,rfl,parts_none _ _,HR9.out,HK9.out⟩
theorem typ_off {x:ByteArray} (h:Rdr W b L (x :: ws) reg tv w) (n_int:un x≠[105,110,116]) (n_ptr:un x≠[112,116,114]) (n_fn:un x≠[102,110]) (n_struct:un x≠[115,116,114,117,99,116]) (n_array:un x≠[97,114,114,97,121]):Calls Tryz.prog 103 #[.pointer (some ⟨b,0,none⟩)] w (Out b w):=by
 have hlt:=h.lt
 have hWs:=h.be.size
 have HN:Hid ((w.alloc (.cells #[.int .u8 0,.int .i64 0,.int .i64 0,.slice none 0 0] 43)).heap[w.heap.size]?=some (.cells #[.int .u8 0,.int .i64 0,.int .i64 0,.slice none 0 0] 43 (0,0))):=alloc_new _ _
 have hbn:w.heap.size≠b:=by omega
 have HK0:Hid (Kept [b] w (w.alloc (.cells #[.int .u8 0,.int .i64 0,.int .i64 0,.slice none 0 0] 43))):=(Kept.refl [b] w).alloc _
 have HA:=hid (h.on (alloc_below w (.cells #[.int .u8 0,.int .i64 0,.int .i64 0,.slice none 0 0] 43)))
 have q_int:(x.toList == [105,110,116])=false:=by rw [str_eq];exact decide_eq_false n_int
 have q_ptr:(x.toList == [112,116,114])=false:=by rw [str_eq];exact decide_eq_false n_ptr
 have q_fn:(x.toList == [102,110])=false:=by rw [str_eq];exact decide_eq_false n_fn
 have q_struct:(x.toList == [115,116,114,117,99,116])=false:=by rw [str_eq];exact decide_eq_false n_struct
 have q_array:(x.toList == [97,114,114,97,121])=false:=by rw [str_eq];exact decide_eq_false n_array
 have HWD:=hid (word_yes HA.out)
 unfold Goes at HWD
 clear h n_int n_ptr n_fn n_struct n_array
 go_enter Tryz.func103,Tryz.ntmps103
 go_wp2_with fail
 refine HWD.out.mono ?_
 rintro e w1 ⟨rfl,hr1,hk1⟩
 have HK1:=hid hk1
 have HR1:=hid hr1
 clear hr1 hk1 HWD HA
 have HK2:=hid (HK0.out.trans HK1.out)
 go_wp2
 exact ⟨rfl,rfl,HK2.out⟩
theorem typ_nil (h:Rdr W b L [] reg tv w):Calls Tryz.prog 103 #[.pointer (some ⟨b,0,none⟩)] w (Out b w):=by
 have hlt:=h.lt
 have hWs:=h.be.size
 have HN:Hid ((w.alloc (.cells #[.int .u8 0,.int .i64 0,.int .i64 0,.slice none 0 0] 43)).heap[w.heap.size]?=some (.cells #[.int .u8 0,.int .i64 0,.int .i64 0,.slice none 0 0] 43 (0,0))):=alloc_new _ _
 have hbn:w.heap.size≠b:=by omega
 have HK0:Hid (Kept [b] w (w.alloc (.cells #[.int .u8 0,.int .i64 0,.int .i64 0,.slice none 0 0] 43))):=(Kept.refl [b] w).alloc _
 have HA:=hid (h.on (alloc_below w (.cells #[.int .u8 0,.int .i64 0,.int .i64 0,.slice none 0 0] 43)))
 have HWD:=hid (word_no HA.out)
 unfold Out at HWD
 clear h
 go_enter Tryz.func103,Tryz.ntmps103
 go_wp2_with fail
 refine HWD.out.mono ?_
 rintro e w1 ⟨rfl,hk1⟩
 have HK2:=hid (HK0.out.trans hk1)
 clear hk1
 go_wp2
 exact ⟨rfl,rfl,HK2.out⟩

theorem typ_any {Q:Ending→World→Prop} (h:Rdr W b L ws reg tv w) (hy:∀ t ws',typC ws=some (t,ws')→∀ e w',TypO W b L ws' reg tv t w e w'→Q e w') (hn:typC ws=none→∀ e w',Out b w e w'→Q e w'):Calls Tryz.prog 103 #[.pointer (some ⟨b,0,none⟩)] w Q:=by
 cases ws with
 | nil=>exact (typ_nil h).mono (hn rfl)
 | cons x l =>
  by_cases h1:un x=[105,110,116]
  ·exact typ_int h h1 hy hn
  by_cases h2:un x=[112,116,114]
  ·exact typ_ptr h h2 hy hn
  by_cases h3:un x=[102,110]
  ·exact typ_fn h h3 hy hn
  by_cases h4:un x=[115,116,114,117,99,116]
  ·exact typ_st h h4 hy hn
  by_cases h5:un x=[97,114,114,97,121]
  ·exact typ_ar h h5 hy hn
  ·exact (typ_off h h1 h2 h3 h4 h5).mono (hn (by unfold typC;simp only;rw [if_neg h1,if_neg h2,if_neg h3,if_neg h4,if_neg h5]))
theorem typ_yes {t:Ty} {ws' : Ln} (h:Rdr W b L ws reg tv w) (hm:typC ws=some (t,ws')):Calls Tryz.prog 103 #[.pointer (some ⟨b,0,none⟩)] w (TypO W b L ws' reg tv t w) :=
 typ_any h (fun t' u hx=>by rw [hm] at hx;cases hx;exact fun _ _ h=>h) (fun hn=>by rw [hm] at hn;cases hn)
theorem typ_no (h:Rdr W b L ws reg tv w) (hm:typC ws=none):Calls Tryz.prog 103 #[.pointer (some ⟨b,0,none⟩)] w (Out b w) :=
 typ_any h (fun t u hx=>by rw [hm] at hx;cases hx) (fun _ _ _ h=>h)
end Go.Proofs.YtpejpnffcepdlaaGreatDoor.RcT
namespace Go.Proofs.YtpejpnffcepdlaaGreatDoor.RcE
open Go.RowKit Go.Lib TyM TyP ShM ShP ShB IntO SetP LxM LxJ LxY RwO RdM RdN RdV RdB RdK Aft RcP RcA RcB RcC RcD RcT
open LxP (LinesAt StrsAt)

variable {W:World} {b:Nat} {L:List Ln} {ws:Ln} {reg:Int} {tv:Value} {w:World}

def EndO (W:World) (b:Nat) (L:List Ln) (ws:Ln) (reg:Int) (tv:Value) (x:Ex) (is:Bool) (w:World) (e:Ending) (w' : World):Prop :=
 e=.returned (.tuple #[exV x,.bool is])∧Rdr W b L ws reg tv w'∧Kept [b] w w' 
theorem jumpW {Q:Ending→World→Prop} {l:Ln} (h:Rdr W b (l :: L) ws reg tv w) (hx:w0 l=[106,117,109,112]) (hy:∀ x,endJ (l.drop 1)=some x→∀ e w',EndO W b L [] reg tv x true w e w'→Q e w') (hn:endJ (l.drop 1)=none→∀ e w',Out b w e w'→Q e w'):Calls Tryz.prog 187 #[.pointer (some ⟨b,0,none⟩)] w (Q):=by
 have HY:=hid hy
 have HN:=hid hn
 clear hy hn
 have HX:=hid (show w0 l=un ⟨#[106,117,109,112]⟩ from hx)
 clear hx
 have hlt:=h.lt
 have hWs:=h.be.size
 have hbn:w.heap.size≠b:=by omega
 have hbn1:w.heap.size+1≠b:=by omega
 obtain ⟨V,hV⟩:∃ V,V=(w.alloc (.cells #[.int .u8 0,.int .i64 0,.int .i64 0,.int .i64 0] 35)).alloc (.cells #[.int .u8 0,.int .i64 0,.int .i64 0,.int .i64 0] 35):=⟨_,rfl⟩
 have HN0:Hid (V.heap[w.heap.size]?=some (.cells #[.int .u8 0,.int .i64 0,.int .i64 0,.int .i64 0] 35 (0,0))):=by show _=_;rw [hV];exact alloc_old (alloc_new _ _) _
 have HN1:Hid (V.heap[w.heap.size+1]?=some (.cells #[.int .u8 0,.int .i64 0,.int .i64 0,.int .i64 0] 35 (0,0))):=by
  show _=_
  rw [hV]
  have:=alloc_new (w.alloc (.cells #[.int .u8 0,.int .i64 0,.int .i64 0,.int .i64 0] 35)) (.cells #[.int .u8 0,.int .i64 0,.int .i64 0,.int .i64 0] 35)
  rwa [World.size_alloc] at this
 have HK0:Hid (Kept [b] w V):=by show Kept _ _ _;rw [hV];exact ((Kept.refl [b] w).alloc _).alloc _
 have HR0:Hid (Rdr W b (l :: L) ws reg tv V):=by show Rdr _ _ _ _ _ _ _;rw [hV];exact (h.on (alloc_below _ _)).on (alloc_below _ _)
 have HV:=hid hV
 clear h hV hlt
 go_enter Tryz.func187,Tryz.ntmps187
 go_wp2_with fail
 rw [← HV.out]
 refine (begins_on ⟨#[106,117,109,112]⟩ HR0.out HX.out).mono ?_
 rintro e w1 ⟨rfl,hr,hk⟩
 have HK1:=hid (HK0.out.trans hk)
 have HR1:=hid hr
 have HM1:=hid ((Kept.refl [b] V).trans hk)
 clear hr hk HR0 HK0 HX
 cases hq:markC 98 (l.drop 1) with
 | none =>
  have HQ:=hid (HN.out (by simp only [endJ,hq]))
  have HNO:=hid hq
  clear hq
  go_wp2_with fail
  refine (mark_no (c:=98) HR1.out HNO.out).mono ?_
  rintro e w9 ⟨rfl,hk⟩
  have HK9:=hid (HK1.out.trans hk)
  clear hk
  go_wp2
  exact ⟨rfl,HQ.out _ _ ⟨rfl,HK9.out⟩⟩
 | some qm =>
  obtain ⟨q1,m1⟩:=qm
  have HH1:=hid hq
  clear hq
  go_wp2_with fail
  refine (mark_yes (c:=98) HR1.out HH1.out).mono ?_
  rintro e w2 ⟨rfl,hr,hk⟩
  have HK2:=hid (HK1.out.trans hk)
  have HR2:=hid hr
  have HM2:=hid (HM1.out.trans hk)
  clear hr hk HR1 HK1
  have hn:=HM2.out.heap HN1.out (fun hx=>hbn1 (List.mem_singleton.1 hx))
  have y0:=cells_of hn 0 _ rfl
  have z0:=(ShTB.cells_heap hn).2 0
  have y1:=cells_of hn 1 _ rfl
  have z1:=(ShTB.cells_heap hn).2 1
  have y2:=cells_of hn 2 _ rfl
  have z2:=(ShTB.cells_heap hn).2 2
  have y3:=cells_of hn 3 _ rfl
  have z3:=(ShTB.cells_heap hn).2 3
  obtain ⟨X3,hX3,hne3,hk3,hb3⟩:=set4_world w2 (w.heap.size+1) 35 (.int .u8 0) (.int .i64 0) (.int .i64 0) (.int .i64 0) (.int .u8 1) (.int .i64 0) (.int .i64 q1) (.int .i64 0) hn
  have HX3:=hid hX3
  have hone:=kept_one hne3 (hb3 0 w2 (Below.refl _ _) (Nat.zero_le _))
  have HR7:=hid (Rdr_one HR2.out hone (by omega) hbn1)
  have HK7:=hid (Kept_new HK2.out hone (by omega))
  have HQ0:=hid ((hne3 w.heap.size (by omega)).trans (HM2.out.heap HN0.out (fun hx=>hbn (List.mem_singleton.1 hx))))
  have HQ1:=hid hk3
  clear hn hX3 hk3 hb3 hne3 hone HR2 HK2 HM2 HN0 HN1
  go_wp2_with fail
  rw [← HX3.out]
  clear y0 y1 y2 y3 z0 z1 z2 z3 HX3
  cases m1 with
  | cons z4 l4 =>
   have HQ:=hid (HN.out (by simp only [endJ,HH1.out]))
   refine (over_no HR7.out (by simp)).mono ?_
   rintro e w8 ⟨rfl,hk⟩
   have HK9:=hid (HK7.out.trans hk)
   clear hk
   go_wp2
   exact ⟨rfl,HQ.out _ _ ⟨rfl,HK9.out⟩⟩
  | nil =>
   have HQ:=hid (HY.out _ (by simp only [endJ,HH1.out];rfl))
   refine (over_yes HR7.out).mono ?_
   rintro e w8 ⟨rfl,hr,hk⟩
   have HR8:=hid hr
   have HK8:=hid (HK7.out.trans hk)
   have hn0:=hk.heap HQ0.out (fun hx=>hbn (List.mem_singleton.1 hx))
   have hn1:=hk.heap HQ1.out (fun hx=>hbn1 (List.mem_singleton.1 hx))
   clear hr hk HR7 HK7 HQ0 HQ1
   have y0:=cells_of hn0 0 _ rfl
   have z0:=(ShTB.cells_heap hn0).2 0
   have v0:=cells_of hn1 0 _ rfl
   have y1:=cells_of hn0 1 _ rfl
   have z1:=(ShTB.cells_heap hn0).2 1
   have v1:=cells_of hn1 1 _ rfl
   have y2:=cells_of hn0 2 _ rfl
   have z2:=(ShTB.cells_heap hn0).2 2
   have v2:=cells_of hn1 2 _ rfl
   have y3:=cells_of hn0 3 _ rfl
   have z3:=(ShTB.cells_heap hn0).2 3
   have v3:=cells_of hn1 3 _ rfl
   obtain ⟨X4,hX4,hne4,hk4,hb4⟩:=set4_world w8 w.heap.size 35 (.int .u8 0) (.int .i64 0) (.int .i64 0) (.int .i64 0) (.int .u8 1) (.int .i64 0) (.int .i64 q1) (.int .i64 0) hn0
   have HX4:=hid hX4
   have hone:=kept_one hne4 (hb4 0 w8 (Below.refl _ _) (Nat.zero_le _))
   have HR9:=hid (Rdr_one HR8.out hone hWs hbn)
   have HK9:=hid (Kept_new HK8.out hone (Nat.le_refl _))
   have x0:=cells_of hk4 0 _ rfl
   have x1:=cells_of hk4 1 _ rfl
   have x2:=cells_of hk4 2 _ rfl
   have x3:=cells_of hk4 3 _ rfl
   clear hn0 hn1 hX4 hk4 hb4 hne4 hone HR8 HK8
   go_wp2
   (try simp only [Exit.inBlock,Exit.then])
   rw [← HX4.out]
   refine bodyPost_ret (by simp [results,Tryz.results187,go_sem,x0,x1,x2,x3];try rfl) rfl ?_
   exact HQ.out _ _ ⟨rfl,HR9.out,HK9.out⟩
theorem branchW {Q:Ending→World→Prop} {l:Ln} (h:Rdr W b (l :: L) ws reg tv w) (hx:w0 l=[98,114,97,110,99,104]) (hy:∀ x,endB (l.drop 1)=some x→∀ e w',EndO W b L [] reg tv x true w e w'→Q e w') (hn:endB (l.drop 1)=none→∀ e w',Out b w e w'→Q e w'):Calls Tryz.prog 187 #[.pointer (some ⟨b,0,none⟩)] w (Q):=by
 have HY:=hid hy
 have HN:=hid hn
 clear hy hn
 have HX:=hid (show w0 l=un ⟨#[98,114,97,110,99,104]⟩ from hx)
 have HF_jump:=hid (fun (l' : Ln) (M' : List Ln) (e:l :: L=l' :: M')=>show w0 l'≠un ⟨#[106,117,109,112]⟩ by cases e;rw [hx];decide)
 clear hx
 have hlt:=h.lt
 have hWs:=h.be.size
 have hbn:w.heap.size≠b:=by omega
 have hbn1:w.heap.size+1≠b:=by omega
 obtain ⟨V,hV⟩:∃ V,V=(w.alloc (.cells #[.int .u8 0,.int .i64 0,.int .i64 0,.int .i64 0] 35)).alloc (.cells #[.int .u8 0,.int .i64 0,.int .i64 0,.int .i64 0] 35):=⟨_,rfl⟩
 have HN0:Hid (V.heap[w.heap.size]?=some (.cells #[.int .u8 0,.int .i64 0,.int .i64 0,.int .i64 0] 35 (0,0))):=by show _=_;rw [hV];exact alloc_old (alloc_new _ _) _
 have HN1:Hid (V.heap[w.heap.size+1]?=some (.cells #[.int .u8 0,.int .i64 0,.int .i64 0,.int .i64 0] 35 (0,0))):=by
  show _=_
  rw [hV]
  have:=alloc_new (w.alloc (.cells #[.int .u8 0,.int .i64 0,.int .i64 0,.int .i64 0] 35)) (.cells #[.int .u8 0,.int .i64 0,.int .i64 0,.int .i64 0] 35)
  rwa [World.size_alloc] at this
 have HK0:Hid (Kept [b] w V):=by show Kept _ _ _;rw [hV];exact ((Kept.refl [b] w).alloc _).alloc _
 have HR0:Hid (Rdr W b (l :: L) ws reg tv V):=by show Rdr _ _ _ _ _ _ _;rw [hV];exact (h.on (alloc_below _ _)).on (alloc_below _ _)
 have HV:=hid hV
 clear h hV hlt
 go_enter Tryz.func187,Tryz.ntmps187
 go_wp2_with fail
 rw [← HV.out]
 refine (begins_off ⟨#[106,117,109,112]⟩ HR0.out HF_jump.out).mono ?_
 rintro e w1 ⟨rfl,hr,hk⟩
 have HK1:=hid (HK0.out.trans hk)
 have HR1:=hid hr
 have HM1:=hid ((Kept.refl [b] V).trans hk)
 clear hr hk HR0 HK0
 go_wp2_with fail
 refine (begins_on ⟨#[98,114,97,110,99,104]⟩ HR1.out HX.out).mono ?_
 rintro e w2 ⟨rfl,hr,hk⟩
 have HK2:=hid (HK1.out.trans hk)
 have HR2:=hid hr
 have HM2:=hid (HM1.out.trans hk)
 clear hr hk HR1 HK1 HX
 cases hq:markC 114 (l.drop 1) with
 | none =>
  have HQ:=hid (HN.out (by simp only [endB,hq]))
  have HNO:=hid hq
  clear hq
  go_wp2_with fail
  refine (mark_no (c:=114) HR2.out HNO.out).mono ?_
  rintro e w9 ⟨rfl,hk⟩
  have HK9:=hid (HK2.out.trans hk)
  clear hk
  go_wp2
  exact ⟨rfl,HQ.out _ _ ⟨rfl,HK9.out⟩⟩
 | some qm =>
  obtain ⟨q1,m1⟩:=qm
  have HH1:=hid hq
  clear hq
  go_wp2_with fail
  refine (mark_yes (c:=114) HR2.out HH1.out).mono ?_
  rintro e w3 ⟨rfl,hr,hk⟩
  have HK3:=hid (HK2.out.trans hk)
  have HR3:=hid hr
  have HM3:=hid (HM2.out.trans hk)
  clear hr hk HR2 HK2
  cases hq:markC 98 (m1) with
  | none =>
   have HQ:=hid (HN.out (by simp only [endB,HH1.out,hq]))
   have HNO:=hid hq
   clear hq
   go_wp2_with fail
   refine (mark_no (c:=98) HR3.out HNO.out).mono ?_
   rintro e w9 ⟨rfl,hk⟩
   have HK9:=hid (HK3.out.trans hk)
   clear hk
   go_wp2
   exact ⟨rfl,HQ.out _ _ ⟨rfl,HK9.out⟩⟩
  | some qm =>
   obtain ⟨q2,m2⟩:=qm
   have HH2:=hid hq
   clear hq
   go_wp2_with fail
   refine (mark_yes (c:=98) HR3.out HH2.out).mono ?_
   rintro e w4 ⟨rfl,hr,hk⟩
   have HK4:=hid (HK3.out.trans hk)
   have HR4:=hid hr
   have HM4:=hid (HM3.out.trans hk)
   clear hr hk HR3 HK3
   cases hq:markC 98 (m2) with
   | none =>
    have HQ:=hid (HN.out (by simp only [endB,HH1.out,HH2.out,hq]))
    have HNO:=hid hq
    clear hq
    go_wp2_with fail
    refine (mark_no (c:=98) HR4.out HNO.out).mono ?_
    rintro e w9 ⟨rfl,hk⟩
    have HK9:=hid (HK4.out.trans hk)
    clear hk
    go_wp2
    exact ⟨rfl,HQ.out _ _ ⟨rfl,HK9.out⟩⟩
   | some qm =>
    obtain ⟨q3,m3⟩:=qm
    have HH3:=hid hq
    clear hq
    go_wp2_with fail
    refine (mark_yes (c:=98) HR4.out HH3.out).mono ?_
    rintro e w5 ⟨rfl,hr,hk⟩
    have HK5:=hid (HK4.out.trans hk)
    have HR5:=hid hr
    have HM5:=hid (HM4.out.trans hk)
    clear hr hk HR4 HK4
    have hn:=HM5.out.heap HN1.out (fun hx=>hbn1 (List.mem_singleton.1 hx))
    have y0:=cells_of hn 0 _ rfl
    have z0:=(ShTB.cells_heap hn).2 0
    have y1:=cells_of hn 1 _ rfl
    have z1:=(ShTB.cells_heap hn).2 1
    have y2:=cells_of hn 2 _ rfl
    have z2:=(ShTB.cells_heap hn).2 2
    have y3:=cells_of hn 3 _ rfl
    have z3:=(ShTB.cells_heap hn).2 3
    obtain ⟨X3,hX3,hne3,hk3,hb3⟩:=set4_world w5 (w.heap.size+1) 35 (.int .u8 0) (.int .i64 0) (.int .i64 0) (.int .i64 0) (.int .u8 2) (.int .i64 q1) (.int .i64 q2) (.int .i64 q3) hn
    have HX3:=hid hX3
    have hone:=kept_one hne3 (hb3 0 w5 (Below.refl _ _) (Nat.zero_le _))
    have HR7:=hid (Rdr_one HR5.out hone (by omega) hbn1)
    have HK7:=hid (Kept_new HK5.out hone (by omega))
    have HQ0:=hid ((hne3 w.heap.size (by omega)).trans (HM5.out.heap HN0.out (fun hx=>hbn (List.mem_singleton.1 hx))))
    have HQ1:=hid hk3
    clear hn hX3 hk3 hb3 hne3 hone HR5 HK5 HM5 HN0 HN1
    go_wp2_with fail
    rw [← HX3.out]
    clear y0 y1 y2 y3 z0 z1 z2 z3 HX3
    cases m3 with
    | cons z4 l4 =>
     have HQ:=hid (HN.out (by simp only [endB,HH1.out,HH2.out,HH3.out]))
     refine (over_no HR7.out (by simp)).mono ?_
     rintro e w8 ⟨rfl,hk⟩
     have HK9:=hid (HK7.out.trans hk)
     clear hk
     go_wp2
     exact ⟨rfl,HQ.out _ _ ⟨rfl,HK9.out⟩⟩
    | nil =>
     have HQ:=hid (HY.out _ (by simp only [endB,HH1.out,HH2.out,HH3.out];rfl))
     refine (over_yes HR7.out).mono ?_
     rintro e w8 ⟨rfl,hr,hk⟩
     have HR8:=hid hr
     have HK8:=hid (HK7.out.trans hk)
     have hn0:=hk.heap HQ0.out (fun hx=>hbn (List.mem_singleton.1 hx))
     have hn1:=hk.heap HQ1.out (fun hx=>hbn1 (List.mem_singleton.1 hx))
     clear hr hk HR7 HK7 HQ0 HQ1
     have y0:=cells_of hn0 0 _ rfl
     have z0:=(ShTB.cells_heap hn0).2 0
     have v0:=cells_of hn1 0 _ rfl
     have y1:=cells_of hn0 1 _ rfl
     have z1:=(ShTB.cells_heap hn0).2 1
     have v1:=cells_of hn1 1 _ rfl
     have y2:=cells_of hn0 2 _ rfl
     have z2:=(ShTB.cells_heap hn0).2 2
     have v2:=cells_of hn1 2 _ rfl
     have y3:=cells_of hn0 3 _ rfl
     have z3:=(ShTB.cells_heap hn0).2 3
     have v3:=cells_of hn1 3 _ rfl
     obtain ⟨X4,hX4,hne4,hk4,hb4⟩:=set4_world w8 w.heap.size 35 (.int .u8 0) (.int .i64 0) (.int .i64 0) (.int .i64 0) (.int .u8 2) (.int .i64 q1) (.int .i64 q2) (.int .i64 q3) hn0
     have HX4:=hid hX4
     have hone:=kept_one hne4 (hb4 0 w8 (Below.refl _ _) (Nat.zero_le _))
     have HR9:=hid (Rdr_one HR8.out hone hWs hbn)
     have HK9:=hid (Kept_new HK8.out hone (Nat.le_refl _))
     have x0:=cells_of hk4 0 _ rfl
     have x1:=cells_of hk4 1 _ rfl
     have x2:=cells_of hk4 2 _ rfl
     have x3:=cells_of hk4 3 _ rfl
     clear hn0 hn1 hX4 hk4 hb4 hne4 hone HR8 HK8
     go_wp2
     (try simp only [Exit.inBlock,Exit.then])
     rw [← HX4.out]
     refine bodyPost_ret (by simp [results,Tryz.results187,go_sem,x0,x1,x2,x3];try rfl) rfl ?_
     exact HQ.out _ _ ⟨rfl,HR9.out,HK9.out⟩
theorem returnW {Q:Ending→World→Prop} {l:Ln} (h:Rdr W b (l :: L) ws reg tv w) (hx:w0 l=[114,101,116,117,114,110]) (hy:∀ x,endR (l.drop 1)=some x→∀ e w',EndO W b L [] reg tv x true w e w'→Q e w') (hn:endR (l.drop 1)=none→∀ e w',Out b w e w'→Q e w'):Calls Tryz.prog 187 #[.pointer (some ⟨b,0,none⟩)] w (Q):=by
 have HY:=hid hy
 have HN:=hid hn
 clear hy hn
 have HX:=hid (show w0 l=un ⟨#[114,101,116,117,114,110]⟩ from hx)
 have HF_jump:=hid (fun (l' : Ln) (M' : List Ln) (e:l :: L=l' :: M')=>show w0 l'≠un ⟨#[106,117,109,112]⟩ by cases e;rw [hx];decide)
 have HF_branch:=hid (fun (l' : Ln) (M' : List Ln) (e:l :: L=l' :: M')=>show w0 l'≠un ⟨#[98,114,97,110,99,104]⟩ by cases e;rw [hx];decide)
 clear hx
 have hlt:=h.lt
 have hWs:=h.be.size
 have hbn:w.heap.size≠b:=by omega
 have hbn1:w.heap.size+1≠b:=by omega
 obtain ⟨V,hV⟩:∃ V,V=(w.alloc (.cells #[.int .u8 0,.int .i64 0,.int .i64 0,.int .i64 0] 35)).alloc (.cells #[.int .u8 0,.int .i64 0,.int .i64 0,.int .i64 0] 35):=⟨_,rfl⟩
 have HN0:Hid (V.heap[w.heap.size]?=some (.cells #[.int .u8 0,.int .i64 0,.int .i64 0,.int .i64 0] 35 (0,0))):=by show _=_;rw [hV];exact alloc_old (alloc_new _ _) _
 have HN1:Hid (V.heap[w.heap.size+1]?=some (.cells #[.int .u8 0,.int .i64 0,.int .i64 0,.int .i64 0] 35 (0,0))):=by
  show _=_
  rw [hV]
  have:=alloc_new (w.alloc (.cells #[.int .u8 0,.int .i64 0,.int .i64 0,.int .i64 0] 35)) (.cells #[.int .u8 0,.int .i64 0,.int .i64 0,.int .i64 0] 35)
  rwa [World.size_alloc] at this
 have HK0:Hid (Kept [b] w V):=by show Kept _ _ _;rw [hV];exact ((Kept.refl [b] w).alloc _).alloc _
 have HR0:Hid (Rdr W b (l :: L) ws reg tv V):=by show Rdr _ _ _ _ _ _ _;rw [hV];exact (h.on (alloc_below _ _)).on (alloc_below _ _)
 have HV:=hid hV
 clear h hV hlt
 go_enter Tryz.func187,Tryz.ntmps187
 go_wp2_with fail
 rw [← HV.out]
 refine (begins_off ⟨#[106,117,109,112]⟩ HR0.out HF_jump.out).mono ?_
 rintro e w1 ⟨rfl,hr,hk⟩
 have HK1:=hid (HK0.out.trans hk)
 have HR1:=hid hr
 have HM1:=hid ((Kept.refl [b] V).trans hk)
 clear hr hk HR0 HK0
 go_wp2_with fail
 refine (begins_off ⟨#[98,114,97,110,99,104]⟩ HR1.out HF_branch.out).mono ?_
 rintro e w2 ⟨rfl,hr,hk⟩
 have HK2:=hid (HK1.out.trans hk)
 have HR2:=hid hr
 have HM2:=hid (HM1.out.trans hk)
 clear hr hk HR1 HK1
 go_wp2_with fail
 refine (begins_on ⟨#[114,101,116,117,114,110]⟩ HR2.out HX.out).mono ?_
 rintro e w3 ⟨rfl,hr,hk⟩
 have HK3:=hid (HK2.out.trans hk)
 have HR3:=hid hr
 have HM3:=hid (HM2.out.trans hk)
 clear hr hk HR2 HK2 HX
 cases hq:markC 114 (l.drop 1) with
 | none =>
  have HQ:=hid (HN.out (by simp only [endR,hq]))
  have HNO:=hid hq
  clear hq
  go_wp2_with fail
  refine (mark_no (c:=114) HR3.out HNO.out).mono ?_
  rintro e w9 ⟨rfl,hk⟩
  have HK9:=hid (HK3.out.trans hk)
  clear hk
  go_wp2
  exact ⟨rfl,HQ.out _ _ ⟨rfl,HK9.out⟩⟩
 | some qm =>
  obtain ⟨q1,m1⟩:=qm
  have HH1:=hid hq
  clear hq
  go_wp2_with fail
  refine (mark_yes (c:=114) HR3.out HH1.out).mono ?_
  rintro e w4 ⟨rfl,hr,hk⟩
  have HK4:=hid (HK3.out.trans hk)
  have HR4:=hid hr
  have HM4:=hid (HM3.out.trans hk)
  clear hr hk HR3 HK3
  have hn:=HM4.out.heap HN1.out (fun hx=>hbn1 (List.mem_singleton.1 hx))
  have y0:=cells_of hn 0 _ rfl
  have z0:=(ShTB.cells_heap hn).2 0
  have y1:=cells_of hn 1 _ rfl
  have z1:=(ShTB.cells_heap hn).2 1
  have y2:=cells_of hn 2 _ rfl
  have z2:=(ShTB.cells_heap hn).2 2
  have y3:=cells_of hn 3 _ rfl
  have z3:=(ShTB.cells_heap hn).2 3
  obtain ⟨X3,hX3,hne3,hk3,hb3⟩:=set4_world w4 (w.heap.size+1) 35 (.int .u8 0) (.int .i64 0) (.int .i64 0) (.int .i64 0) (.int .u8 3) (.int .i64 q1) (.int .i64 0) (.int .i64 0) hn
  have HX3:=hid hX3
  have hone:=kept_one hne3 (hb3 0 w4 (Below.refl _ _) (Nat.zero_le _))
  have HR7:=hid (Rdr_one HR4.out hone (by omega) hbn1)
  have HK7:=hid (Kept_new HK4.out hone (by omega))
  have HQ0:=hid ((hne3 w.heap.size (by omega)).trans (HM4.out.heap HN0.out (fun hx=>hbn (List.mem_singleton.1 hx))))
  have HQ1:=hid hk3
  clear hn hX3 hk3 hb3 hne3 hone HR4 HK4 HM4 HN0 HN1
  go_wp2_with fail
  rw [← HX3.out]
  clear y0 y1 y2 y3 z0 z1 z2 z3 HX3
  cases m1 with
  | cons z4 l4 =>
   have HQ:=hid (HN.out (by simp only [endR,HH1.out]))
   refine (over_no HR7.out (by simp)).mono ?_
   rintro e w8 ⟨rfl,hk⟩
   have HK9:=hid (HK7.out.trans hk)
   clear hk
   go_wp2
   exact ⟨rfl,HQ.out _ _ ⟨rfl,HK9.out⟩⟩
  | nil =>
   have HQ:=hid (HY.out _ (by simp only [endR,HH1.out];rfl))
   refine (over_yes HR7.out).mono ?_
   rintro e w8 ⟨rfl,hr,hk⟩
   have HR8:=hid hr
   have HK8:=hid (HK7.out.trans hk)
   have hn0:=hk.heap HQ0.out (fun hx=>hbn (List.mem_singleton.1 hx))
   have hn1:=hk.heap HQ1.out (fun hx=>hbn1 (List.mem_singleton.1 hx))
   clear hr hk HR7 HK7 HQ0 HQ1
   have y0:=cells_of hn0 0 _ rfl
   have z0:=(ShTB.cells_heap hn0).2 0
   have v0:=cells_of hn1 0 _ rfl
   have y1:=cells_of hn0 1 _ rfl
   have z1:=(ShTB.cells_heap hn0).2 1
   have v1:=cells_of hn1 1 _ rfl
   have y2:=cells_of hn0 2 _ rfl
   have z2:=(ShTB.cells_heap hn0).2 2
   have v2:=cells_of hn1 2 _ rfl
   have y3:=cells_of hn0 3 _ rfl
   have z3:=(ShTB.cells_heap hn0).2 3
   have v3:=cells_of hn1 3 _ rfl
   obtain ⟨X4,hX4,hne4,hk4,hb4⟩:=set4_world w8 w.heap.size 35 (.int .u8 0) (.int .i64 0) (.int .i64 0) (.int .i64 0) (.int .u8 3) (.int .i64 q1) (.int .i64 0) (.int .i64 0) hn0
   have HX4:=hid hX4
   have hone:=kept_one hne4 (hb4 0 w8 (Below.refl _ _) (Nat.zero_le _))
   have HR9:=hid (Rdr_one HR8.out hone hWs hbn)
   have HK9:=hid (Kept_new HK8.out hone (Nat.le_refl _))
   have x0:=cells_of hk4 0 _ rfl
   have x1:=cells_of hk4 1 _ rfl
   have x2:=cells_of hk4 2 _ rfl
   have x3:=cells_of hk4 3 _ rfl
   clear hn0 hn1 hX4 hk4 hb4 hne4 hone HR8 HK8
   go_wp2
   (try simp only [Exit.inBlock,Exit.then])
   rw [← HX4.out]
   refine bodyPost_ret (by simp [results,Tryz.results187,go_sem,x0,x1,x2,x3];try rfl) rfl ?_
   exact HQ.out _ _ ⟨rfl,HR9.out,HK9.out⟩
theorem end_off (h:Rdr W b L ws reg tv w) (hw:∀ l M,L=l :: M→isEndB (w0 l)=false):Calls Tryz.prog 187 #[.pointer (some ⟨b,0,none⟩)] w (EndO W b L ws reg tv ⟨0,0,0,0⟩ false w):=by
 have HF_jump:=hid (fun (l' : Ln) (M' : List Ln) (e:L=l' :: M')=>show w0 l'≠un ⟨#[106,117,109,112]⟩ from fun hx=>by have:=hw l' M' e;rw [hx] at this;exact absurd this (by decide))
 have HF_branch:=hid (fun (l' : Ln) (M' : List Ln) (e:L=l' :: M')=>show w0 l'≠un ⟨#[98,114,97,110,99,104]⟩ from fun hx=>by have:=hw l' M' e;rw [hx] at this;exact absurd this (by decide))
 have HF_return:=hid (fun (l' : Ln) (M' : List Ln) (e:L=l' :: M')=>show w0 l'≠un ⟨#[114,101,116,117,114,110]⟩ from fun hx=>by have:=hw l' M' e;rw [hx] at this;exact absurd this (by decide))
 clear hw
 have hlt:=h.lt
 have hWs:=h.be.size
 have hbn:w.heap.size≠b:=by omega
 have hbn1:w.heap.size+1≠b:=by omega
 obtain ⟨V,hV⟩:∃ V,V=(w.alloc (.cells #[.int .u8 0,.int .i64 0,.int .i64 0,.int .i64 0] 35)).alloc (.cells #[.int .u8 0,.int .i64 0,.int .i64 0,.int .i64 0] 35):=⟨_,rfl⟩
 have HN0:Hid (V.heap[w.heap.size]?=some (.cells #[.int .u8 0,.int .i64 0,.int .i64 0,.int .i64 0] 35 (0,0))):=by show _=_;rw [hV];exact alloc_old (alloc_new _ _) _
 have HN1:Hid (V.heap[w.heap.size+1]?=some (.cells #[.int .u8 0,.int .i64 0,.int .i64 0,.int .i64 0] 35 (0,0))):=by
  show _=_
  rw [hV]
  have:=alloc_new (w.alloc (.cells #[.int .u8 0,.int .i64 0,.int .i64 0,.int .i64 0] 35)) (.cells #[.int .u8 0,.int .i64 0,.int .i64 0,.int .i64 0] 35)
  rwa [World.size_alloc] at this
 have HK0:Hid (Kept [b] w V):=by show Kept _ _ _;rw [hV];exact ((Kept.refl [b] w).alloc _).alloc _
 have HR0:Hid (Rdr W b L ws reg tv V):=by show Rdr _ _ _ _ _ _ _;rw [hV];exact (h.on (alloc_below _ _)).on (alloc_below _ _)
 have HV:=hid hV
 clear h hV hlt
 go_enter Tryz.func187,Tryz.ntmps187
 go_wp2_with fail
 rw [← HV.out]
 refine (begins_off ⟨#[106,117,109,112]⟩ HR0.out HF_jump.out).mono ?_
 rintro e w1 ⟨rfl,hr,hk⟩
 have HK1:=hid (HK0.out.trans hk)
 have HR1:=hid hr
 have HM1:=hid ((Kept.refl [b] V).trans hk)
 clear hr hk HR0 HK0
 go_wp2_with fail
 refine (begins_off ⟨#[98,114,97,110,99,104]⟩ HR1.out HF_branch.out).mono ?_
 rintro e w2 ⟨rfl,hr,hk⟩
 have HK2:=hid (HK1.out.trans hk)
 have HR2:=hid hr
 have HM2:=hid (HM1.out.trans hk)
 clear hr hk HR1 HK1
 go_wp2_with fail
 refine (begins_off ⟨#[114,101,116,117,114,110]⟩ HR2.out HF_return.out).mono ?_
 rintro e w3 ⟨rfl,hr,hk⟩
 have HK3:=hid (HK2.out.trans hk)
 have HR3:=hid hr
 have HM3:=hid (HM2.out.trans hk)
 clear hr hk HR2 HK2
 have hn0:=HM3.out.heap HN0.out (fun hx=>hbn (List.mem_singleton.1 hx))
 have y0:=cells_of hn0 0 _ rfl
 have z0:=(ShTB.cells_heap hn0).2 0
 have y1:=cells_of hn0 1 _ rfl
 have z1:=(ShTB.cells_heap hn0).2 1
 have y2:=cells_of hn0 2 _ rfl
 have z2:=(ShTB.cells_heap hn0).2 2
 have y3:=cells_of hn0 3 _ rfl
 have z3:=(ShTB.cells_heap hn0).2 3
 obtain ⟨X4,hX4,hne4,hk4,hb4⟩:=set4_world w3 w.heap.size 35 (.int .u8 0) (.int .i64 0) (.int .i64 0) (.int .i64 0) (.int .u8 0) (.int .i64 0) (.int .i64 0) (.int .i64 0) hn0
 have HX4:=hid hX4
 have hone:=kept_one hne4 (hb4 0 w3 (Below.refl _ _) (Nat.zero_le _))
 have HR9:=hid (Rdr_one HR3.out hone hWs hbn)
 have HK9:=hid (Kept_new HK3.out hone (Nat.le_refl _))
 have x0:=cells_of hk4 0 _ rfl
 have x1:=cells_of hk4 1 _ rfl
 have x2:=cells_of hk4 2 _ rfl
 have x3:=cells_of hk4 3 _ rfl
 clear hn0 hX4 hk4 hb4 hne4 hone HR3 HK3
 go_wp2
 (try simp only [Exit.inBlock,Exit.then])
 rw [← HX4.out]
 refine bodyPost_ret (by simp [results,Tryz.results187,go_sem,x0,x1,x2,x3];try rfl) rfl ?_
 exact ⟨rfl,HR9.out,HK9.out⟩
theorem isEnd_cases {s:List UInt8} (h:isEndB s=true):s=[106,117,109,112]∨s=[98,114,97,110,99,104]∨s=[114,101,116,117,114,110]:=by
 unfold isEndB at h
 simpa using h
theorem end_any {Q:Ending→World→Prop} {l:Ln} (h:Rdr W b (l :: L) ws reg tv w) (he:isEndB (w0 l)=true) (hy:∀ x,endP l=some x→∀ e w',EndO W b L [] reg tv x true w e w'→Q e w') (hn:endP l=none→∀ e w',Out b w e w'→Q e w'):Calls Tryz.prog 187 #[.pointer (some ⟨b,0,none⟩)] w Q:=by
 have h1:=h.fl.head.1
 rcases isEnd_cases he with hx | hx | hx
 ·rw [end_j h1 hx] at hy hn;exact jumpW h hx hy hn
 ·rw [end_b h1 hx] at hy hn;exact branchW h hx hy hn
 ·rw [end_r h1 hx] at hy hn;exact returnW h hx hy hn
theorem end_yes {l:Ln} {x:Ex} (h:Rdr W b (l :: L) ws reg tv w) (he:isEndB (w0 l)=true) (hm:endP l=some x):Calls Tryz.prog 187 #[.pointer (some ⟨b,0,none⟩)] w (EndO W b L [] reg tv x true w) :=
 end_any h he (fun x' hx=>by rw [hm] at hx;cases hx;exact fun _ _ h=>h) (fun hn=>by rw [hm] at hn;cases hn)
theorem end_no {l:Ln} (h:Rdr W b (l :: L) ws reg tv w) (he:isEndB (w0 l)=true) (hm:endP l=none):Calls Tryz.prog 187 #[.pointer (some ⟨b,0,none⟩)] w (Out b w) :=
 end_any h he (fun x hx=>by rw [hm] at hx;cases hx) (fun _ _ _ h=>h)
end Go.Proofs.YtpejpnffcepdlaaGreatDoor.RcE
namespace Go.Proofs.YtpejpnffcepdlaaGreatDoor.RcH
open Go.RowKit Go.Lib TyM TyP ShM ShP ShB IntO SetP LxM LxJ LxY RwO RdM RdN RdV RdB RdP Fresh Aft RcP RcA RcB RcC RcD RcT

variable {W:World} {b:Nat} {L:List Ln} {ws:Ln} {reg:Int} {tv:Value} {w:World}

structure BoxH (n0 bx:Nat) (x:Ix) (va vf:Value) (wr:World):Prop where
 box:wr.heap[bx]?=some (.cells #[.int .u8 x.op,.int .i64 x.typ,.int .i64 x.a,.int .i64 x.b,.int .i64 x.n,va,vf] 31 (0,0))
 owa:wr.ownsRow n0 3 1 va x.args.length (intVals x.args)
 owf:wr.ownsRow n0 3 1 vf x.frm.length (intVals x.frm)
 apart:Apart va vf
theorem BoxH.go {n0 bx:Nat} {x:Ix} {va vf:Value} {wr w' : World} (h:BoxH n0 bx x va vf wr) (hr:Rdr W b L ws reg tv wr) (hb:bx≠b) (hk:Kept [b] wr w'):BoxH n0 bx x va vf w' :=
 ⟨hk.heap h.box (fun e=>hb (List.mem_singleton.1 e)),owns_go hr h.owa (by decide) hk,owns_go hr h.owf (by decide) hk,h.apart⟩
theorem BoxH.on {n0 bx:Nat} {x:Ix} {va vf:Value} {wr w' : World} (h:BoxH n0 bx x va vf wr) (hk:Below wr.heap.size wr w'):BoxH n0 bx x va vf w' :=
 ⟨(hk.block _ (Array.getElem?_eq_some_iff.1 h.box).1).trans h.box,ownsRow_below h.owa hk,ownsRow_below h.owf hk,h.apart⟩
theorem BoxH.setA {n0 bx:Nat} {x:Ix} {va vf:Value} {wr:World} (h:BoxH n0 bx x va vf wr) (q:Int):BoxH n0 bx { x with a:=q } va vf (wr.setCell ⟨bx,2,none⟩ (.int .i64 q)) :=
 ⟨(ShTB.set_heap' (i:=2) _ h.box).trans (by simp),owns_other h.owa (ShTB.grown_set wr bx 2 _) (ShTB.typed_at h.box) (by decide),owns_other h.owf (ShTB.grown_set wr bx 2 _) (ShTB.typed_at h.box) (by decide),h.apart⟩
theorem BoxH.setB {n0 bx:Nat} {x:Ix} {va vf:Value} {wr:World} (h:BoxH n0 bx x va vf wr) (q:Int):BoxH n0 bx { x with b:=q } va vf (wr.setCell ⟨bx,3,none⟩ (.int .i64 q)) :=
 ⟨(ShTB.set_heap' (i:=3) _ h.box).trans (by simp),owns_other h.owa (ShTB.grown_set wr bx 3 _) (ShTB.typed_at h.box) (by decide),owns_other h.owf (ShTB.grown_set wr bx 3 _) (ShTB.typed_at h.box) (by decide),h.apart⟩
theorem BoxH.setN {n0 bx:Nat} {x:Ix} {va vf:Value} {wr:World} (h:BoxH n0 bx x va vf wr) (q:Int):BoxH n0 bx { x with n:=q } va vf (wr.setCell ⟨bx,4,none⟩ (.int .i64 q)) :=
 ⟨(ShTB.set_heap' (i:=4) _ h.box).trans (by simp),owns_other h.owa (ShTB.grown_set wr bx 4 _) (ShTB.typed_at h.box) (by decide),owns_other h.owf (ShTB.grown_set wr bx 4 _) (ShTB.typed_at h.box) (by decide),h.apart⟩
theorem BoxH.setT {n0 bx:Nat} {x:Ix} {va vf:Value} {wr:World} (h:BoxH n0 bx x va vf wr) (q:Int):BoxH n0 bx { x with typ:=q } va vf (wr.setCell ⟨bx,1,none⟩ (.int .i64 q)) :=
 ⟨(ShTB.set_heap' (i:=1) _ h.box).trans (by simp),owns_other h.owa (ShTB.grown_set wr bx 1 _) (ShTB.typed_at h.box) (by decide),owns_other h.owf (ShTB.grown_set wr bx 1 _) (ShTB.typed_at h.box) (by decide),h.apart⟩
theorem BoxH.setO {n0 bx:Nat} {x:Ix} {va vf:Value} {wr:World} (h:BoxH n0 bx x va vf wr) (q:Int):BoxH n0 bx { x with op:=q } va vf (wr.setCell ⟨bx,0,none⟩ (.int .u8 q)) :=
 ⟨(ShTB.set_heap' (i:=0) _ h.box).trans (by simp),owns_other h.owa (ShTB.grown_set wr bx 0 _) (ShTB.typed_at h.box) (by decide),owns_other h.owf (ShTB.grown_set wr bx 0 _) (ShTB.typed_at h.box) (by decide),h.apart⟩
theorem BoxH.growA {n0 bx:Nat} {x:Ix} {va vf v5:Value} {w4 w5:World} {q:Int} (h:BoxH n0 bx x va vf w4) (hlt:bx < n0) (h5:w5.ownsRow n0 3 1 v5 (x.args.length+1) (intVals x.args++intVals [q])) (hg:w4.grownBy w5 va.ownBlock) (hn:NewRow w4 va v5) :
  w5.heap[bx]?=some (.cells #[.int .u8 x.op,.int .i64 x.typ,.int .i64 x.a,.int .i64 x.b,.int .i64 x.n,va,vf] 31 (0,0))∧BoxH n0 bx { x with args:=x.args++[q] } v5 vf (w5.setCell ⟨bx,5,none⟩ v5):=by
 have hlo:=h.owa.lt
 have hb5:w5.heap[bx]?=_:=(hg.block _ (Array.getElem?_eq_some_iff.1 h.box).1 (fun e=>by have:=(hlo _ e.symm).1;omega)).trans h.box
 have hgs:=ShTB.grown_set w5 bx 5 v5
 refine ⟨hb5,⟨(ShTB.set_heap' (i:=5) v5 hb5).trans (by simp),?_,owns_other (kept_apart h.owf h.apart.symm hg) hgs (ShTB.typed_at hb5) (by decide),(apart_new h.apart.symm hn h.owf).symm⟩⟩
 show World.ownsRow _ _ _ _ _ _ _
 rw [List.length_append,intVals_append]
 exact owns_other h5 hgs (ShTB.typed_at hb5) (by decide)
theorem BoxH.growF {n0 bx:Nat} {x:Ix} {va vf v5:Value} {w4 w5:World} {q:Int} (h:BoxH n0 bx x va vf w4) (hlt:bx < n0) (h5:w5.ownsRow n0 3 1 v5 (x.frm.length+1) (intVals x.frm++intVals [q])) (hg:w4.grownBy w5 vf.ownBlock) (hn:NewRow w4 vf v5) :
  w5.heap[bx]?=some (.cells #[.int .u8 x.op,.int .i64 x.typ,.int .i64 x.a,.int .i64 x.b,.int .i64 x.n,va,vf] 31 (0,0))∧BoxH n0 bx { x with frm:=x.frm++[q] } va v5 (w5.setCell ⟨bx,6,none⟩ v5):=by
 have hlo:=h.owf.lt
 have hb5:w5.heap[bx]?=_:=(hg.block _ (Array.getElem?_eq_some_iff.1 h.box).1 (fun e=>by have:=(hlo _ e.symm).1;omega)).trans h.box
 have hgs:=ShTB.grown_set w5 bx 6 v5
 refine ⟨hb5,⟨(ShTB.set_heap' (i:=6) v5 hb5).trans (by simp),owns_other (kept_apart h.owa h.apart hg) hgs (ShTB.typed_at hb5) (by decide),?_,apart_new h.apart hn h.owa⟩⟩
 show World.ownsRow _ _ _ _ _ _ _
 rw [List.length_append,intVals_append]
 exact owns_other h5 hgs (ShTB.typed_at hb5) (by decide)
structure HasS (W:World) (b:Nat) (L:List Ln) (ws:Ln) (reg:Int) (tv:Value) (w:World) (bx:Nat) (x:Ix) (va vf:Value) (wr:World):Prop where
 rdr:Rdr W b L ws reg tv wr
 kept:Kept [b,bx] w wr
 box:BoxH w.heap.size bx x va vf wr
 ne:bx≠b
 lo:W.heap.size≤bx
 lt:bx < w.heap.size
theorem HasS.go {bx:Nat} {x:Ix} {va vf:Value} {wr w' : World} {ws' : Ln} (h:HasS W b L ws reg tv w bx x va vf wr) (hr:Rdr W b L ws' reg tv w') (hk:Kept [b] wr w'):HasS W b L ws' reg tv w bx x va vf w' :=
 ⟨hr,h.kept.trans (hk.mono (by simp)),h.box.go h.rdr h.ne hk,h.ne,h.lo,h.lt⟩
theorem HasS.on {bx:Nat} {x:Ix} {va vf:Value} {wr w' : World} (h:HasS W b L ws reg tv w bx x va vf wr) (hk:Below wr.heap.size wr w'):HasS W b L ws reg tv w bx x va vf w' :=
 ⟨h.rdr.on hk,h.kept.go hk,h.box.on hk,h.ne,h.lo,h.lt⟩
theorem HasS.draw {bx:Nat} {x:Ix} {va vf:Value} {wr:World} (h:HasS W b L ws reg tv w bx x va vf wr):HasS W b L ws reg tv w bx x va vf wr.drew :=
 h.on ((Below.refl _ wr).drew)
theorem HasS.set {bx i:Nat} {x y:Ix} {va vf va' vf' : Value} {wr:World} (h:HasS W b L ws reg tv w bx x va vf wr) {u:Value} (hb:BoxH w.heap.size bx y va' vf' (wr.setCell ⟨bx,i,none⟩ u)):HasS W b L ws reg tv w bx y va' vf' (wr.setCell ⟨bx,i,none⟩ u) :=
 ⟨h.rdr.kept (E:=[bx]) ((Kept.refl [bx] wr).set (.inl (by simp)) u) (fun e=>h.ne (List.mem_singleton.1 e).symm) (by simpa using h.lo),h.kept.set (.inl (by simp)) u,hb,h.ne,h.lo,h.lt⟩
theorem HasS.growA {bx:Nat} {x:Ix} {va vf v5:Value} {w4 w5:World} {q:Int} (h:HasS W b L ws reg tv w bx x va vf w4) (h5:w5.ownsRow w.heap.size 3 1 v5 (x.args.length+1) (intVals x.args++intVals [q])) (hg:w4.grownBy w5 va.ownBlock) (hn:NewRow w4 va v5) :
  w5.heap[bx]?=some (.cells #[.int .u8 x.op,.int .i64 x.typ,.int .i64 x.a,.int .i64 x.b,.int .i64 x.n,va,vf] 31 (0,0))∧HasS W b L ws reg tv w bx { x with args:=x.args++[q] } v5 vf (w5.setCell ⟨bx,5,none⟩ v5):=by
 obtain ⟨h1,h2⟩:=h.box.growA h.lt h5 hg hn
 have hWs:W.heap.size≤w.heap.size:=by have:=h.lo;have:=h.lt;omega
 have hr5:=Rdr_grown h.rdr h.box.owa hWs (by decide) hg
 exact ⟨h1,⟨hr5.kept (E:=[bx]) ((Kept.refl [bx] w5).set (.inl (by simp)) v5) (fun e=>h.ne (List.mem_singleton.1 e).symm) (by simpa using h.lo),(Kept_grown h.kept h.box.owa (Nat.le_refl _) hg).set (.inl (by simp)) v5,h2,h.ne,h.lo,h.lt⟩⟩
theorem HasS.growF {bx:Nat} {x:Ix} {va vf v5:Value} {w4 w5:World} {q:Int} (h:HasS W b L ws reg tv w bx x va vf w4) (h5:w5.ownsRow w.heap.size 3 1 v5 (x.frm.length+1) (intVals x.frm++intVals [q])) (hg:w4.grownBy w5 vf.ownBlock) (hn:NewRow w4 vf v5) :
  w5.heap[bx]?=some (.cells #[.int .u8 x.op,.int .i64 x.typ,.int .i64 x.a,.int .i64 x.b,.int .i64 x.n,va,vf] 31 (0,0))∧HasS W b L ws reg tv w bx { x with frm:=x.frm++[q] } va v5 (w5.setCell ⟨bx,6,none⟩ v5):=by
 obtain ⟨h1,h2⟩:=h.box.growF h.lt h5 hg hn
 have hWs:W.heap.size≤w.heap.size:=by have:=h.lo;have:=h.lt;omega
 have hr5:=Rdr_grown h.rdr h.box.owf hWs (by decide) hg
 exact ⟨h1,⟨hr5.kept (E:=[bx]) ((Kept.refl [bx] w5).set (.inl (by simp)) v5) (fun e=>h.ne (List.mem_singleton.1 e).symm) (by simpa using h.lo),(Kept_grown h.kept h.box.owf (Nat.le_refl _) hg).set (.inl (by simp)) v5,h2,h.ne,h.lo,h.lt⟩⟩
theorem HasS.facts {bx:Nat} {x:Ix} {va vf:Value} {wr:World} (h:HasS W b L ws reg tv w bx x va vf wr):(wr.cell? ⟨bx,0,none⟩=some (.int .u8 x.op)∧wr.cell? ⟨bx,1,none⟩=some (.int .i64 x.typ)∧wr.cell? ⟨bx,2,none⟩=some (.int .i64 x.a)∧wr.cell? ⟨bx,3,none⟩=some (.int .i64 x.b)∧wr.cell? ⟨bx,4,none⟩=some (.int .i64 x.n)∧wr.cell? ⟨bx,5,none⟩=some va∧wr.cell? ⟨bx,6,none⟩=some vf)∧(∀ i,wr.frozen? ⟨bx,i,none⟩=false) :=
 ⟨⟨cells_of h.box.box 0 _ rfl,cells_of h.box.box 1 _ rfl,cells_of h.box.box 2 _ rfl,cells_of h.box.box 3 _ rfl,cells_of h.box.box 4 _ rfl,cells_of h.box.box 5 _ rfl,cells_of h.box.box 6 _ rfl⟩,(ShTB.cells_heap h.box.box).2⟩
def askX (op:Int):Ix:=⟨op,0,0,1,0,[2],[]⟩
theorem ask_A (op:Int):decide ((0:Int)∈usesOf (askX op))=hasAB op:=by
 rw [Bool.eq_iff_iff,decide_eq_true_iff]
 unfold usesOf askX
 cases hasAB op<;>cases twoB op<;>cases argsB op<;>simp
theorem ask_B (op:Int):decide ((1:Int)∈usesOf (askX op))=twoB op:=by
 rw [Bool.eq_iff_iff,decide_eq_true_iff]
 unfold usesOf askX
 cases hasAB op<;>cases twoB op<;>cases argsB op<;>simp
theorem ask_R (op:Int):decide ((2:Int)∈usesOf (askX op))=argsB op:=by
 rw [Bool.eq_iff_iff,decide_eq_true_iff]
 unfold usesOf askX
 cases hasAB op<;>cases twoB op<;>cases argsB op<;>simp
theorem ask_small (op:Int):(usesOf (askX op)).length≤3:=by
 unfold usesOf askX
 cases hasAB op<;>cases twoB op<;>cases argsB op<;>simp
structure AskS (w:World) (op:Int) (uv va vf:Value) (wr:World):Prop where
 own:wr.ownsRow w.heap.size 3 1 uv (usesOf (askX op)).length (intVals (usesOf (askX op)))
 aa:Apart uv va
 af:Apart uv vf
theorem AskS.ints {op:Int} {uv va vf:Value} {wr:World} (h:AskS w op uv va vf wr):IntsAt wr uv (usesOf (askX op)):=intsAt_of_owns h.own (by have:=ask_small op;omega)
theorem AskS.go {op:Int} {uv va vf:Value} {wr w' : World} (h:AskS w op uv va vf wr) (hr:Rdr W b L ws reg tv wr) (hk:Kept [b] wr w'):AskS w op uv va vf w':=⟨owns_go hr h.own (by decide) hk,h.aa,h.af⟩
theorem AskS.on {op:Int} {uv va vf:Value} {wr w' : World} (h:AskS w op uv va vf wr) (hk:Below wr.heap.size wr w'):AskS w op uv va vf w':=⟨ownsRow_below h.own hk,h.aa,h.af⟩
theorem AskS.set {op:Int} {uv va vf:Value} {wr:World} {bx i:Nat} {x:Ix} {n0:Nat} {v1 v2:Value} (h:AskS w op uv va vf wr) (hb:BoxH n0 bx x v1 v2 wr) (u:Value):AskS w op uv va vf (wr.setCell ⟨bx,i,none⟩ u) :=
 ⟨owns_other h.own (ShTB.grown_set wr bx i u) (ShTB.typed_at hb.box) (by decide),h.aa,h.af⟩
theorem AskS.growA {op:Int} {uv va vf v5:Value} {w4 w5:World} {bx:Nat} {x:Ix} (h:AskS w op uv va vf w4) (hg:w4.grownBy w5 va.ownBlock) (hn:NewRow w4 va v5) (hb5:w5.heap[bx]?=some (.cells #[.int .u8 x.op,.int .i64 x.typ,.int .i64 x.a,.int .i64 x.b,.int .i64 x.n,va,vf] 31 (0,0))):AskS w op uv v5 vf (w5.setCell ⟨bx,5,none⟩ v5) :=
 ⟨owns_other (kept_apart h.own h.aa hg) (ShTB.grown_set w5 bx 5 v5) (ShTB.typed_at hb5) (by decide),apart_new h.aa hn h.own,h.af⟩
theorem AskS.growF {op:Int} {uv va vf v5:Value} {w4 w5:World} {bx:Nat} {x:Ix} (h:AskS w op uv va vf w4) (hg:w4.grownBy w5 vf.ownBlock) (hn:NewRow w4 vf v5) (hb5:w5.heap[bx]?=some (.cells #[.int .u8 x.op,.int .i64 x.typ,.int .i64 x.a,.int .i64 x.b,.int .i64 x.n,va,vf] 31 (0,0))):AskS w op uv va v5 (w5.setCell ⟨bx,6,none⟩ v5) :=
 ⟨owns_other (kept_apart h.own h.af hg) (ShTB.grown_set w5 bx 6 v5) (ShTB.typed_at hb5) (by decide),h.aa,apart_new h.af hn h.own⟩
theorem wp_append_int1 {o:Oper} {a:Act} {w:World} {K:Act→World→Prop} {Q:Exit→Act→World→Prop} (s x:Operand)
  (ho:o.op=.call { callee:=.builtin .append,args:=#[s,x],argTypes:=#[29,29] })
  (base:Nat) (v0:Value) (hs:a.eval s=v0) (n:Nat) (xs:List Value) (hown:w.ownsRow base 3 1 v0 n xs) (hn:n≤100000) (g:Nat) (q:Int) (hx:a.eval x=.slice (some ⟨g,0,none⟩) 1 1) (hc:w.cell? ⟨g,0,none⟩=some (.int .i64 q)) (hbase:base≤w.heap.size)
  (h:∀ v' w',w'.ownsRow base 3 1 v' (n+1) (xs++intVals [q])→w.grownBy w' v0.ownBlock→NewRow w v0 v'→K (a.put o.dst v') w'):o.wp Tryz.prog a w K Q:=by
 obtain ⟨i0,hi,hz0,hz1,hz2⟩:=info_parts info_int
 obtain ⟨v',w',hr,h2,h3,h4⟩:=append_fresh (P:=Tryz.prog) w base 29 o.type 3 i0 (.int .i64 0) 1 8 Tryz.underlying29 hi hz0 hz1 hz2 rfl (by decide) v0 n xs hown ⟨g,0,none⟩ 1 1 (intVals [q]) rfl (fun j u hj=>by
  have hj0:j=0:=by
   have:=(List.getElem?_eq_some_iff.1 hj).1
   rw [intVals_length] at this
   simp at this
   omega
  subst hj0
  cases hj
  exact hc) (int_one [q]) (by unfold maxLen;omega) (by omega) hbase
 unfold Oper.wp execOp
 simp only [ho,resolve,invoke,builtin,Sem.run_bind,Sem.run_pure,Result.andThen_ok,List.map_toArray,List.map_cons,List.map_nil,hs,hx,hr]
 exact h v' w' h2 h3 h4
end Go.Proofs.YtpejpnffcepdlaaGreatDoor.RcH
namespace Go.Proofs.YtpejpnffcepdlaaGreatDoor.RcI
open Go.RowKit Go.Lib TyM TyP ShM ShP ShB IntO SetP LxM LxJ LxY RwO RdM RdN RdV RdB RdP Fresh Aft RgZ RcP RcA RcB RcC RcD RcT RcN RcU RcH

variable {W:World} {b:Nat} {L:List Ln} {ws:Ln} {reg:Int} {tv:Value} {w:World}

def HasO (W:World) (b:Nat) (L:List Ln) (ws:Ln) (reg:Int) (tv:Value) (bx:Nat) (y:Ix) (w:World) (e:Ending) (w' : World):Prop :=
 e=.returned (.tuple #[])∧∃ va vf,HasS W b L ws reg tv w bx y va vf w'
def Out2 (b bx:Nat) (w:World) (e:Ending) (w' : World):Prop:=e=.panicked CH∧Kept [b,bx] w w'
theorem has_noA {bx:Nat} {op typ:Int} (h:HasS W b L ws reg tv w bx (ix0 op typ) (.slice none 0 0) (.slice none 0 0) w) (htab:ShA.Tab W) (h0:0≤op) (h22:op≤22) (fA:hasAB op=true) (hno:markC 114 ws=none) :
  Calls Tryz.prog 208 #[.pointer (some ⟨b,0,none⟩),.pointer (some ⟨bx,0,none⟩)] w (Out2 b bx w):=by
 have HFA:=hid fA
 clear fA
 have HNO:=hid hno
 clear hno
 have hA1:=h.on (alloc_below w (.cells #[.int .i64 2] 3))
 have HUS:=hid (ShU.uses_calls (askX op) (.slice (some ⟨w.heap.size,0,none⟩) 1 1) (.slice none 0 0) (w.alloc (.cells #[.int .i64 2] 3)) h0 (by show op≤255;omega) (htab.on (h.rdr.be.trans ((alloc_below w _).mono h.rdr.be.size))) (ints_one (cell_new _ _ _ _ rfl) (size_new _ _ _ rfl)) (by show 1≤1000;omega) ⟨_,_,_,rfl⟩)
 rw [show ixV (askX op) (.slice (some ⟨w.heap.size,0,none⟩) 1 1) (.slice none 0 0)=.agg #[.int .u8 op,.int .i64 0,.int .i64 0,.int .i64 1,.int .i64 0,.slice (some ⟨w.heap.size,0,none⟩) 1 1,.slice none 0 0] from rfl] at HUS
 unfold OwnI at HUS
 have HA1:=hid hA1
 have f0:w.cell? ⟨bx,0,none⟩=some (.int .u8 op):=h.facts.1.1
 have hbx:=h.lt
 clear h hA1 htab h0 h22
 go_enter Tryz.func208,Tryz.ntmps208
 go_wp2_with fail
 refine HUS.out.mono ?_
 rintro e w1 ⟨uv,un,rfl,huo,hb1⟩
 have hun:un=(usesOf (askX op)).length:=by have:=huo.1;rw [intVals_length] at this;omega
 subst hun
 have HS1:=hid (HA1.out.on hb1)
 have HQ1:Hid (AskS w op uv (.slice none 0 0) (.slice none 0 0) w1):=⟨owns_base huo (by simp),(fun g h1 h2=>by cases h2),(fun g h1 h2=>by cases h2)⟩
 obtain ⟨ua,uc,rfl⟩:=own_form huo
 clear huo hb1 HUS HA1 f0
 go_wp2_with fail
 have HC:=hid (contains_calls _ _ 0 w1 HQ1.out.ints)
 rw [ask_A,HFA.out] at HC
 refine HC.out.mono ?_
 rintro e w' ⟨rfl,rfl⟩
 clear HC
 go_wp2_with fail
 refine (mark_no (c:=114) HS1.out.rdr HNO.out).mono ?_
 rintro e w9 ⟨rfl,hk⟩
 have HK9:=hid (HS1.out.kept.trans (hk.mono (F:=[b,bx]) (by simp)))
 clear hk
 go_wp2
 exact ⟨rfl,rfl,HK9.out⟩
theorem has_noB {bx:Nat} {op typ:Int} (h:HasS W b L ws reg tv w bx (ix0 op typ) (.slice none 0 0) (.slice none 0 0) w) (htab:ShA.Tab W) (h0:0≤op) (h22:op≤22) (fA:hasAB op=true) (fB:twoB op=true) {qa:Int} {l1:Ln} (hA:markC 114 ws=some (qa,l1)) (hno:markC 114 l1=none) :
  Calls Tryz.prog 208 #[.pointer (some ⟨b,0,none⟩),.pointer (some ⟨bx,0,none⟩)] w (Out2 b bx w):=by
 have HFA:=hid fA
 clear fA
 have HFB:=hid fB
 clear fB
 have HA:=hid hA
 clear hA
 have HNO:=hid hno
 clear hno
 have hA1:=h.on (alloc_below w (.cells #[.int .i64 2] 3))
 have HUS:=hid (ShU.uses_calls (askX op) (.slice (some ⟨w.heap.size,0,none⟩) 1 1) (.slice none 0 0) (w.alloc (.cells #[.int .i64 2] 3)) h0 (by show op≤255;omega) (htab.on (h.rdr.be.trans ((alloc_below w _).mono h.rdr.be.size))) (ints_one (cell_new _ _ _ _ rfl) (size_new _ _ _ rfl)) (by show 1≤1000;omega) ⟨_,_,_,rfl⟩)
 rw [show ixV (askX op) (.slice (some ⟨w.heap.size,0,none⟩) 1 1) (.slice none 0 0)=.agg #[.int .u8 op,.int .i64 0,.int .i64 0,.int .i64 1,.int .i64 0,.slice (some ⟨w.heap.size,0,none⟩) 1 1,.slice none 0 0] from rfl] at HUS
 unfold OwnI at HUS
 have HA1:=hid hA1
 have f0:w.cell? ⟨bx,0,none⟩=some (.int .u8 op):=h.facts.1.1
 have hbx:=h.lt
 clear h hA1 htab h0 h22
 go_enter Tryz.func208,Tryz.ntmps208
 go_wp2_with fail
 refine HUS.out.mono ?_
 rintro e w1 ⟨uv,un,rfl,huo,hb1⟩
 have hun:un=(usesOf (askX op)).length:=by have:=huo.1;rw [intVals_length] at this;omega
 subst hun
 have HS1:=hid (HA1.out.on hb1)
 have HQ1:Hid (AskS w op uv (.slice none 0 0) (.slice none 0 0) w1):=⟨owns_base huo (by simp),(fun g h1 h2=>by cases h2),(fun g h1 h2=>by cases h2)⟩
 obtain ⟨ua,uc,rfl⟩:=own_form huo
 clear huo hb1 HUS HA1 f0
 go_wp2_with fail
 have HC:=hid (contains_calls _ _ 0 w1 HQ1.out.ints)
 rw [ask_A,HFA.out] at HC
 refine HC.out.mono ?_
 rintro e w' ⟨rfl,rfl⟩
 clear HC
 go_wp2_with fail
 refine (mark_yes (c:=114) HS1.out.rdr HA.out).mono ?_
 rintro e w2 ⟨rfl,hr,hk⟩
 have hs:=HS1.out.go hr hk
 have hq:=HQ1.out.go HS1.out.rdr hk
 obtain ⟨⟨_,_,g2,g3,_⟩,gz⟩:=hs.facts
 have gz2:=gz 2
 obtain ⟨w3,hX⟩:∃ X,X=w2.setCell ⟨bx,2,none⟩ (.int .i64 qa):=⟨_,rfl⟩
 have HX:=hid hX
 have HS3:Hid (HasS W b L l1 reg tv w bx ⟨op,typ,qa,0,0,[],[]⟩ (.slice none 0 0) (.slice none 0 0) w3):=by show HasS _ _ _ _ _ _ _ _ _ _ _ _;rw [hX];exact hs.set (hs.box.setA qa)
 have HQ3:Hid (AskS w op (.slice ua (usesOf (askX op)).length uc) (.slice none 0 0) (.slice none 0 0) w3):=by show AskS _ _ _ _ _ _;rw [hX];exact hq.set hs.box _
 have HF0:Hid (w3.cell? ⟨bx,0,none⟩=some (.int .u8 op)):=HS3.out.facts.1.1
 have f0:=HF0.out
 clear hr hk hs hq gz hX HS1 HQ1
 rw [HX.out] at f0
 go_wp2_with fail
 rw [← HX.out]
 clear f0 g2 g3 gz2 HX
 have HC:=hid (contains_calls _ _ 1 w3 HQ3.out.ints)
 rw [ask_B,HFB.out] at HC
 refine HC.out.mono ?_
 rintro e w' ⟨rfl,rfl⟩
 clear HC
 go_wp2_with fail
 refine (mark_no (c:=114) HS3.out.rdr HNO.out).mono ?_
 rintro e w9 ⟨rfl,hk⟩
 have HK9:=hid (HS3.out.kept.trans (hk.mono (F:=[b,bx]) (by simp)))
 clear hk
 go_wp2
 exact ⟨rfl,rfl,HK9.out⟩
theorem has_noN00 {bx:Nat} {op typ:Int} (h:HasS W b L ws reg tv w bx (ix0 op typ) (.slice none 0 0) (.slice none 0 0) w) (htab:ShA.Tab W) (h0:0≤op) (h22:op≤22) (fA:hasAB op=false) (fB:twoB op=false) (hno:numC op ws=none) :
  Calls Tryz.prog 208 #[.pointer (some ⟨b,0,none⟩),.pointer (some ⟨bx,0,none⟩)] w (Out2 b bx w):=by
 have HFA:=hid fA
 clear fA
 have HFB:=hid fB
 clear fB
 have HNO:=hid hno
 clear hno
 have hA1:=h.on (alloc_below w (.cells #[.int .i64 2] 3))
 have HUS:=hid (ShU.uses_calls (askX op) (.slice (some ⟨w.heap.size,0,none⟩) 1 1) (.slice none 0 0) (w.alloc (.cells #[.int .i64 2] 3)) h0 (by show op≤255;omega) (htab.on (h.rdr.be.trans ((alloc_below w _).mono h.rdr.be.size))) (ints_one (cell_new _ _ _ _ rfl) (size_new _ _ _ rfl)) (by show 1≤1000;omega) ⟨_,_,_,rfl⟩)
 rw [show ixV (askX op) (.slice (some ⟨w.heap.size,0,none⟩) 1 1) (.slice none 0 0)=.agg #[.int .u8 op,.int .i64 0,.int .i64 0,.int .i64 1,.int .i64 0,.slice (some ⟨w.heap.size,0,none⟩) 1 1,.slice none 0 0] from rfl] at HUS
 unfold OwnI at HUS
 have HA1:=hid hA1
 have f0:w.cell? ⟨bx,0,none⟩=some (.int .u8 op):=h.facts.1.1
 have hbx:=h.lt
 clear h hA1 htab h0 h22
 go_enter Tryz.func208,Tryz.ntmps208
 go_wp2_with fail
 refine HUS.out.mono ?_
 rintro e w1 ⟨uv,un,rfl,huo,hb1⟩
 have hun:un=(usesOf (askX op)).length:=by have:=huo.1;rw [intVals_length] at this;omega
 subst hun
 have HS1:=hid (HA1.out.on hb1)
 have HQ1:Hid (AskS w op uv (.slice none 0 0) (.slice none 0 0) w1):=⟨owns_base huo (by simp),(fun g h1 h2=>by cases h2),(fun g h1 h2=>by cases h2)⟩
 obtain ⟨ua,uc,rfl⟩:=own_form huo
 clear huo hb1 HUS HA1 f0
 go_wp2_with fail
 have HC:=hid (contains_calls _ _ 0 w1 HQ1.out.ints)
 rw [ask_A,HFA.out] at HC
 refine HC.out.mono ?_
 rintro e w' ⟨rfl,rfl⟩
 clear HC
 have HF0:Hid (w1.cell? ⟨bx,0,none⟩=some (.int .u8 op)):=HS1.out.facts.1.1
 go_wp2_with fail
 have HC:=hid (contains_calls _ _ 1 w1 HQ1.out.ints)
 rw [ask_B,HFB.out] at HC
 refine HC.out.mono ?_
 rintro e w' ⟨rfl,rfl⟩
 clear HC
 have f0:=HF0.out
 go_wp2_with fail
 clear f0
 refine (number_no HS1.out.rdr HNO.out).mono ?_
 rintro e w9 ⟨rfl,hk⟩
 have HK9:=hid (HS1.out.kept.trans (hk.mono (F:=[b,bx]) (by simp)))
 clear hk
 go_wp2
 exact ⟨rfl,rfl,HK9.out⟩
theorem has_noN10 {bx:Nat} {op typ:Int} (h:HasS W b L ws reg tv w bx (ix0 op typ) (.slice none 0 0) (.slice none 0 0) w) (htab:ShA.Tab W) (h0:0≤op) (h22:op≤22) (fA:hasAB op=true) (fB:twoB op=false) {qa:Int} {l1:Ln} (hA:markC 114 ws=some (qa,l1)) (hno:numC op l1=none) :
  Calls Tryz.prog 208 #[.pointer (some ⟨b,0,none⟩),.pointer (some ⟨bx,0,none⟩)] w (Out2 b bx w):=by
 have HFA:=hid fA
 clear fA
 have HFB:=hid fB
 clear fB
 have HA:=hid hA
 clear hA
 have HNO:=hid hno
 clear hno
 have hA1:=h.on (alloc_below w (.cells #[.int .i64 2] 3))
 have HUS:=hid (ShU.uses_calls (askX op) (.slice (some ⟨w.heap.size,0,none⟩) 1 1) (.slice none 0 0) (w.alloc (.cells #[.int .i64 2] 3)) h0 (by show op≤255;omega) (htab.on (h.rdr.be.trans ((alloc_below w _).mono h.rdr.be.size))) (ints_one (cell_new _ _ _ _ rfl) (size_new _ _ _ rfl)) (by show 1≤1000;omega) ⟨_,_,_,rfl⟩)
 rw [show ixV (askX op) (.slice (some ⟨w.heap.size,0,none⟩) 1 1) (.slice none 0 0)=.agg #[.int .u8 op,.int .i64 0,.int .i64 0,.int .i64 1,.int .i64 0,.slice (some ⟨w.heap.size,0,none⟩) 1 1,.slice none 0 0] from rfl] at HUS
 unfold OwnI at HUS
 have HA1:=hid hA1
 have f0:w.cell? ⟨bx,0,none⟩=some (.int .u8 op):=h.facts.1.1
 have hbx:=h.lt
 clear h hA1 htab h0 h22
 go_enter Tryz.func208,Tryz.ntmps208
 go_wp2_with fail
 refine HUS.out.mono ?_
 rintro e w1 ⟨uv,un,rfl,huo,hb1⟩
 have hun:un=(usesOf (askX op)).length:=by have:=huo.1;rw [intVals_length] at this;omega
 subst hun
 have HS1:=hid (HA1.out.on hb1)
 have HQ1:Hid (AskS w op uv (.slice none 0 0) (.slice none 0 0) w1):=⟨owns_base huo (by simp),(fun g h1 h2=>by cases h2),(fun g h1 h2=>by cases h2)⟩
 obtain ⟨ua,uc,rfl⟩:=own_form huo
 clear huo hb1 HUS HA1 f0
 go_wp2_with fail
 have HC:=hid (contains_calls _ _ 0 w1 HQ1.out.ints)
 rw [ask_A,HFA.out] at HC
 refine HC.out.mono ?_
 rintro e w' ⟨rfl,rfl⟩
 clear HC
 go_wp2_with fail
 refine (mark_yes (c:=114) HS1.out.rdr HA.out).mono ?_
 rintro e w2 ⟨rfl,hr,hk⟩
 have hs:=HS1.out.go hr hk
 have hq:=HQ1.out.go HS1.out.rdr hk
 obtain ⟨⟨_,_,g2,g3,_⟩,gz⟩:=hs.facts
 have gz2:=gz 2
 obtain ⟨w3,hX⟩:∃ X,X=w2.setCell ⟨bx,2,none⟩ (.int .i64 qa):=⟨_,rfl⟩
 have HX:=hid hX
 have HS3:Hid (HasS W b L l1 reg tv w bx ⟨op,typ,qa,0,0,[],[]⟩ (.slice none 0 0) (.slice none 0 0) w3):=by show HasS _ _ _ _ _ _ _ _ _ _ _ _;rw [hX];exact hs.set (hs.box.setA qa)
 have HQ3:Hid (AskS w op (.slice ua (usesOf (askX op)).length uc) (.slice none 0 0) (.slice none 0 0) w3):=by show AskS _ _ _ _ _ _;rw [hX];exact hq.set hs.box _
 have HF0:Hid (w3.cell? ⟨bx,0,none⟩=some (.int .u8 op)):=HS3.out.facts.1.1
 have f0:=HF0.out
 clear hr hk hs hq gz hX HS1 HQ1
 rw [HX.out] at f0
 go_wp2_with fail
 rw [← HX.out]
 clear f0 g2 g3 gz2 HX
 have HC:=hid (contains_calls _ _ 1 w3 HQ3.out.ints)
 rw [ask_B,HFB.out] at HC
 refine HC.out.mono ?_
 rintro e w' ⟨rfl,rfl⟩
 clear HC
 have f0:=HF0.out
 go_wp2_with fail
 clear f0
 refine (number_no HS3.out.rdr HNO.out).mono ?_
 rintro e w9 ⟨rfl,hk⟩
 have HK9:=hid (HS3.out.kept.trans (hk.mono (F:=[b,bx]) (by simp)))
 clear hk
 go_wp2
 exact ⟨rfl,rfl,HK9.out⟩
theorem has_noN11 {bx:Nat} {op typ:Int} (h:HasS W b L ws reg tv w bx (ix0 op typ) (.slice none 0 0) (.slice none 0 0) w) (htab:ShA.Tab W) (h0:0≤op) (h22:op≤22) (fA:hasAB op=true) (fB:twoB op=true) {qa:Int} {l1:Ln} (hA:markC 114 ws=some (qa,l1)) {qb:Int} {l2:Ln} (hB:markC 114 l1=some (qb,l2)) (hno:numC op l2=none) :
  Calls Tryz.prog 208 #[.pointer (some ⟨b,0,none⟩),.pointer (some ⟨bx,0,none⟩)] w (Out2 b bx w):=by
 have HFA:=hid fA
 clear fA
 have HFB:=hid fB
 clear fB
 have HA:=hid hA
 clear hA
 have HB:=hid hB
 clear hB
 have HNO:=hid hno
 clear hno
 have hA1:=h.on (alloc_below w (.cells #[.int .i64 2] 3))
 have HUS:=hid (ShU.uses_calls (askX op) (.slice (some ⟨w.heap.size,0,none⟩) 1 1) (.slice none 0 0) (w.alloc (.cells #[.int .i64 2] 3)) h0 (by show op≤255;omega) (htab.on (h.rdr.be.trans ((alloc_below w _).mono h.rdr.be.size))) (ints_one (cell_new _ _ _ _ rfl) (size_new _ _ _ rfl)) (by show 1≤1000;omega) ⟨_,_,_,rfl⟩)
 rw [show ixV (askX op) (.slice (some ⟨w.heap.size,0,none⟩) 1 1) (.slice none 0 0)=.agg #[.int .u8 op,.int .i64 0,.int .i64 0,.int .i64 1,.int .i64 0,.slice (some ⟨w.heap.size,0,none⟩) 1 1,.slice none 0 0] from rfl] at HUS
 unfold OwnI at HUS
 have HA1:=hid hA1
 have f0:w.cell? ⟨bx,0,none⟩=some (.int .u8 op):=h.facts.1.1
 have hbx:=h.lt
 clear h hA1 htab h0 h22
 go_enter Tryz.func208,Tryz.ntmps208
 go_wp2_with fail
 refine HUS.out.mono ?_
 rintro e w1 ⟨uv,un,rfl,huo,hb1⟩
 have hun:un=(usesOf (askX op)).length:=by have:=huo.1;rw [intVals_length] at this;omega
 subst hun
 have HS1:=hid (HA1.out.on hb1)
 have HQ1:Hid (AskS w op uv (.slice none 0 0) (.slice none 0 0) w1):=⟨owns_base huo (by simp),(fun g h1 h2=>by cases h2),(fun g h1 h2=>by cases h2)⟩
 obtain ⟨ua,uc,rfl⟩:=own_form huo
 clear huo hb1 HUS HA1 f0
 go_wp2_with fail
 have HC:=hid (contains_calls _ _ 0 w1 HQ1.out.ints)
 rw [ask_A,HFA.out] at HC
 refine HC.out.mono ?_
 rintro e w' ⟨rfl,rfl⟩
 clear HC
 go_wp2_with fail
 refine (mark_yes (c:=114) HS1.out.rdr HA.out).mono ?_
 rintro e w2 ⟨rfl,hr,hk⟩
 have hs:=HS1.out.go hr hk
 have hq:=HQ1.out.go HS1.out.rdr hk
 obtain ⟨⟨_,_,g2,g3,_⟩,gz⟩:=hs.facts
 have gz2:=gz 2
 obtain ⟨w3,hX⟩:∃ X,X=w2.setCell ⟨bx,2,none⟩ (.int .i64 qa):=⟨_,rfl⟩
 have HX:=hid hX
 have HS3:Hid (HasS W b L l1 reg tv w bx ⟨op,typ,qa,0,0,[],[]⟩ (.slice none 0 0) (.slice none 0 0) w3):=by show HasS _ _ _ _ _ _ _ _ _ _ _ _;rw [hX];exact hs.set (hs.box.setA qa)
 have HQ3:Hid (AskS w op (.slice ua (usesOf (askX op)).length uc) (.slice none 0 0) (.slice none 0 0) w3):=by show AskS _ _ _ _ _ _;rw [hX];exact hq.set hs.box _
 have HF0:Hid (w3.cell? ⟨bx,0,none⟩=some (.int .u8 op)):=HS3.out.facts.1.1
 have f0:=HF0.out
 clear hr hk hs hq gz hX HS1 HQ1
 rw [HX.out] at f0
 go_wp2_with fail
 rw [← HX.out]
 clear f0 g2 g3 gz2 HX
 have HC:=hid (contains_calls _ _ 1 w3 HQ3.out.ints)
 rw [ask_B,HFB.out] at HC
 refine HC.out.mono ?_
 rintro e w' ⟨rfl,rfl⟩
 clear HC
 go_wp2_with fail
 clear HF0
 refine (mark_yes (c:=114) HS3.out.rdr HB.out).mono ?_
 rintro e w4 ⟨rfl,hr,hk⟩
 have hs:=HS3.out.go hr hk
 have hq:=HQ3.out.go HS3.out.rdr hk
 obtain ⟨⟨_,_,g2,g3,_⟩,gz⟩:=hs.facts
 have gz3:=gz 3
 obtain ⟨w5,hX⟩:∃ X,X=w4.setCell ⟨bx,3,none⟩ (.int .i64 qb):=⟨_,rfl⟩
 have HX:=hid hX
 have HS5:Hid (HasS W b L l2 reg tv w bx ⟨op,typ,qa,qb,0,[],[]⟩ (.slice none 0 0) (.slice none 0 0) w5):=by show HasS _ _ _ _ _ _ _ _ _ _ _ _;rw [hX];exact hs.set (hs.box.setB qb)
 have HQ5:Hid (AskS w op (.slice ua (usesOf (askX op)).length uc) (.slice none 0 0) (.slice none 0 0) w5):=by show AskS _ _ _ _ _ _;rw [hX];exact hq.set hs.box _
 have HF0:Hid (w5.cell? ⟨bx,0,none⟩=some (.int .u8 op)):=HS5.out.facts.1.1
 have f0:=HF0.out
 clear hr hk hs hq gz hX HS3 HQ3
 rw [HX.out] at f0
 go_wp2_with fail
 rw [← HX.out]
 clear f0 g2 g3 gz3 HX
 refine (number_no HS5.out.rdr HNO.out).mono ?_
 rintro e w9 ⟨rfl,hk⟩
 have HK9:=hid (HS5.out.kept.trans (hk.mono (F:=[b,bx]) (by simp)))
 clear hk
 go_wp2
 exact ⟨rfl,rfl,HK9.out⟩
end Go.Proofs.YtpejpnffcepdlaaGreatDoor.RcI
