/- Walks over the writer's line and its closure. -/
import Derived.Test.YtbebficgcemkoaaGreatDoorYRdAToWkA
import Derived.Test.YtbebficgcemkoaaGreatDoorYNumLW
import Derived.Test.YtbebficgcemkoaaGreatDoorYRgZToRgY
import Derived.Test.YtbebficgcemkoaaGreatDoorYIntOToAft
set_option maxRecDepth 100000
set_option maxHeartbeats 16000000
namespace Go.Proofs.YtbebficgcemkoaaGreatDoor.WkL
open Go.RowKit Go.Lib IntO SetP TyM ShM LxM LxP LxJ RwO RgZ NumP WrM WkM WkA Aft

def strV (s:ByteArray):List Value:=[.string s]
theorem strW:Wide strV 1:=fun _=>rfl
theorem strRow (l:List ByteArray):rowOf strV l=strs l:=by
 induction l with
 | nil=>rfl
 | cons x l ih=>rw [rowOf_cons,ih];rfl
theorem infoStr:(Tryz.prog.info? 9).map (fun i=>(i.zero,i.size,i.bytes))=some (some (.string ⟨#[]⟩),1,16):=by kernel_rfl
def PutR (w0:World) (b:Nat) (ws:List ByteArray) (w:World) (e:Ending) (w' : World):Prop:=e=.returned (.tuple #[])∧∃ u,PutS w0 b u ws w'∧KeepM w w'

theorem put_calls (w0:World) (b:Nat) (u:Value) (ws:List ByteArray) (w:World) (h:PutS w0 b u ws w) (c:List UInt8) (n:Int) (hn:I64 n) (hc:c.length≤1000) (hl:ws.length≤100000) (ht:NumL.Tab w) :
  Calls Tryz.prog 92 #[.string (mk c),.int .i64 n,.pointer (some ⟨b,0,none⟩)] w (PutR w0 b (ws++[mk (c++itoa n)]) w):=by
 have HW:=hid (NumL.write_calls n hn w.drew (ht.on (Below.refl _ w).drew))
 have HS:=hid (h.on (Below.refl _ w).drew)
 have HL:=hid hl
 have HV0:Hid (w.drew.cell? ⟨b,0,none⟩=some u):=(ShTB.cells_heap HS.out.box).1 0 (by simp)
 have hsz:¬ 9223372036854775807 < (mk c).size+(itoa n).length:=by
  have:=(itoa_length n hn).2
  have h2:(mk c).size=c.length:=by simp [mk,ByteArray.size]
  omega
 have HCAT:Hid (mk c++(⟨(itoa n).toArray⟩:ByteArray)=mk (c++itoa n)):=mk_cat c (itoa n)
 clear h hn ht hl hc
 go_enter Tryz.func92,Tryz.ntmps92
 refine wp_region_noPanic ?_
 refine wp_region_Z (S:=(fun w'=>w'.cell? ⟨b,0,none⟩=some u)) (Z:=[7]) (by kernel_rfl) ?_ (fun hHeld=>?_)
 ·(try dsimp only)
  exact HV0.out
 refine zT 0 rfl ?_
 refine zP 1 rfl ?_
 refine zP 2 rfl ?_
 refine zC 3 rfl (fun K hK=>?_)
 go_simp
 (go_at_call 93;(with_reducible refine HW.out.mono ?_);rintro e w1 ⟨rfl,hb⟩;have HS1:=hid (HS.out.on hb);have HK1:=hid ((KeepM.below (Below.refl _ w).drew).trans (KeepM.below hb));have HV1:Hid (w1.cell? ⟨b,0,none⟩=some u):=(ShTB.cells_heap HS1.out.box).1 0 (by simp);clear hb HS HW)
 refine hK.out _ _ ?_ (fun hHeld=>?_)
 ·(try dsimp only)
  exact HV1.out
 clear hK K
 refine zP 4 rfl ?_
 rw [HCAT.out]
 clear hsz
 generalize mk (c++itoa n)=s
 refine zC 5 rfl (fun K hK=>?_)
 go_simp
 refine hK.out _ _ ?_ (fun hHeld=>?_)
 ·(try dsimp only)
  exact ShP.keep_below (LxP.alloc_below _ _) HV1.out
 clear hK K
 refine zC 6 rfl (fun K hK=>?_)
 rw [if_pos (by rfl)]
 have HS2:=hid (HS1.out.on (LxP.alloc_below w1 (.cells #[.string s] 9)))
 have hbase:=HS2.out.be.size
 refine wp_append_row strW (by decide) infoStr Tryz.underlying74 rfl (.tmp 5) (.tmp 10) rfl w0.heap.size u rfl ws.length (strs ws) HS2.out.own w1.heap.size 0 1 1 [s] rfl rfl (fun z hz v hv=>by obtain rfl:=List.mem_singleton.1 hv;rfl) (fun j v hj=>by
   have hj0:j=0:=by
    have:=(List.getElem?_eq_some_iff.1 hj).1
    simpa [rowOf,strV] using this
   subst hj0
   cases hj
   exact (ShTB.cells_heap (heap_alloc_new w1 _)).1 0 (by simp)) (by have:=HL.out;unfold maxLen;simp;omega) (by have:=HL.out;simp;omega) hbase ?_
 intro v6 w6 hown6 hgr6
 rw [strRow] at hown6
 obtain ⟨g1,g2⟩:=HS2.out.grow hown6 rfl hgr6
 obtain ⟨p6,c6,h60⟩:=own_form hown6
 subst h60
 have HS6:=hid g2
 have HB6:=hid g1
 have HK6:=hid ((HK1.out.trans (KeepM.below (LxP.alloc_below w1 (.cells #[.string s] 9)))).trans (HS2.out.keep (v':=.slice p6 (ws.length+1) c6) hgr6))
 have HV2:Hid (w6.cell? ⟨b,0,none⟩=some u):=(ShTB.cells_heap HB6.out).1 0 (by simp)
 clear hown6 hgr6 g1 g2 hbase
 refine hK.out _ _ ?_ (fun hHeld=>?_)
 ·(try dsimp only)
  exact HV2.out
 clear hK K
 refine zL 7 rfl (fun K hK=>?_)
 have zz:=(ShTB.cells_heap HB6.out).2 0
 have yy:=HV2.out
 go_simp
 refine hK.out _ _ ?_
 clear hK K
 refine wpAnyZ_done (by kernel_rfl) ?_ _
 refine NoPanic.normal ?_
 clear HV0 HV1 HV2 HB6 HS1 HS2
 go_wp2
 go_end0
 exact ⟨rfl,_,HS6.out,HK6.out⟩

theorem wordsAll_take (l:List Pt) (k:Nat) (hk:k < l.length):wordsAll (l.take (k+1))=wordsAll (l.take k)++l[k].words:=by
 rw [List.take_succ_eq_append_getElem hk,wordsAll_append,wordsAll_one]
theorem wordsAll_le (l:List Pt) (k:Nat):(wordsAll (l.take k)).length≤(wordsAll l).length:=by
 have h:wordsAll l=wordsAll (l.take k)++wordsAll (l.drop k):=by rw [← wordsAll_append,List.take_append_drop]
 rw [h,List.length_append];omega
theorem q134x1 {P:Prop} (h:P:=by
 go_wp2
 go_roundg (gk - 1)
 case measure=>have:=HK.out;omega
 case rel=>exact ⟨k+1,_,by have:=HK.out;omega,by go_num,by rw [HNX.out];exact HS6⟩):P:=h
theorem line_calls (v:Value) (l:List Pt) (w:World) (h:PartsAt w v l) (hl:(wordsAll l).length≤10000) (ht:NumL.Tab w) :
  Calls Tryz.prog 43 #[v] w (LineR (wordsAll l) w):=by
 have HPT:=hid (fun b u ws wx (hs:PutS w b u ws wx) c n hn hc hl=>put_calls w b u ws wx hs c n hn hc hl (ht.on hs.be))
 have HWT:=hid (wordsAll_take l)
 have HWL:=hid (wordsAll_le l)
 have HL:=hid hl
 have HP:=hid h
 obtain ⟨ao,cap,rfl,hlen⟩:=h.slice
 have HS0:=hid (PutS.start w)
 clear h ht hl
 go_enter Tryz.func43,Tryz.ntmps43
 go_wp2
 go_loopg [6,7,8,9,10,12,16] l.length (fun gk _ _ _ _ _ _ i wr=>∃ (k:Nat) (u:Value),k+gk=l.length∧i=.int .i64 k∧Hid (PutS w w.heap.size u (wordsAll (l.take k)) wr))
 case atStart=>exact ⟨0,_,by omega,rfl,HS0⟩
 case round =>
  obtain ⟨k,u,hk,rfl,HS⟩:=hrel
  have HK:=hid hk
  clear hk
  by_cases hlt:k < l.length
  rotate_left
  ·obtain rfl:k=l.length:=by have:=HK.out;omega
   have hc:=(ShTB.cells_heap HS.out.box).1 0 (by simp)
   simp only [List.getElem_toArray,List.getElem_cons_zero] at hc
   rw [List.take_length] at HS
   clear HK hlt HWT HWL HP
   generalize l.length=n at *
   go_wp2
   go_ret
   exact ⟨u,rfl,HS.out.own,HS.out.be⟩
  obtain ⟨pb,off,rfl,hpb,hcell0,hat⟩:=HP.out.at k hlt
  have HNX:=hid (HWT.out k hlt)
  have HLE:=hid (HWL.out (k+1))
  rw [HNX.out] at HLE
  have HAT:=hid hat
  have hcell:=(HS.out.be.cell (p:=⟨pb,off+k,none⟩) hpb).trans hcell0
  have HSL:=hid hlen
  clear hcell0 hat HWT HWL HP
  generalize l[k]=q at *
  have hki:(k:Int) < l.length:=by omega
  clear hlt
  generalize l.length=n at *
  cases q with
  | word s =>
   simp only [Pt.val] at hcell
   have hc:=(ShTB.cells_heap HS.out.box).1 0 (by simp)
   simp only [List.getElem_toArray,List.getElem_cons_zero] at hc
   have hA:=isW (.string s)
   have HCE:=hid (show (wr.alloc (.cells #[.string s] 9)).cell? ⟨wr.heap.size,0,none⟩=some (.string s) from (ShTB.cells_heap (heap_alloc_new wr _)).1 0 (by simp))
   have HS1:=hid (HS.out.on (LxP.alloc_below wr (.cells #[.string s] 9)))
   have hlw:(wordsAll (l.take k)).length≤1000000:=by have:=HLE.out;have:=HL.out;rw [List.length_append] at *;omega
   have hlt:wr.heap.size < (wr.alloc (.cells #[.string s] 9)).heap.size:=by rw [World.size_alloc];omega
   have hsz:=HS1.out.be.size
   go_wp2_with (at_builtin;refine wpList_append_one rfl (.tmp 24) (.tmp 26) elemS rfl w.heap.size u rfl (wordsAll (l.take k)).length (strs (wordsAll (l.take k))) HS1.out.own hlw wr.heap.size (.string s) rfl HCE.out hlt rfl hsz ?_)
   intro v6 w6 hown6 hgr6
   obtain ⟨g1,g2⟩:=HS1.out.grow (ns:=[s]) hown6 rfl hgr6
   obtain ⟨p6,c6,h60⟩:=own_form hown6
   subst h60
   have HS6:=hid g2
   have zz:=(ShTB.cells_heap g1).2 0
   have yy:=(ShTB.cells_heap g1).1 0 (by simp)
   clear hown6 hgr6 g1 g2 HS HS1 HCE hc hlt hsz hA hcell
   exact q134x1
  | num n =>
   simp only [Pt.val] at hcell
   have hA:=noW (t:=139) (by decide) (.int .i64 n)
   have hB:=isN (.int .i64 n)
   have hlw:(wordsAll (l.take k)).length≤100000:=by have:=HLE.out;have:=HL.out;rw [List.length_append] at *;omega
   have HPC:=hid (HPT.out w.heap.size u (wordsAll (l.take k)) wr HS.out [] n HAT.out (by simp) hlw)
   rw [show mk []=(⟨#[]⟩:ByteArray) from rfl,List.nil_append] at HPC
   clear hlw HS
   go_wp2_with fail
   refine HPC.out.mono ?_
   rintro e w6 ⟨rfl,u6,hs6,-⟩
   have HS6:=hid hs6
   clear hs6 HPC hA hB hcell
   exact q134x1
  | mark c n =>
   simp only [Pt.val] at hcell
   have hA:=noW (t:=82) (by decide) (.agg #[.string (mk [c]),.int .i64 n])
   have hB:=noN (t:=82) (by decide) (.agg #[.string (mk [c]),.int .i64 n])
   have hC:=isM (.agg #[.string (mk [c]),.int .i64 n])
   have hlw:(wordsAll (l.take k)).length≤100000:=by have:=HLE.out;have:=HL.out;rw [List.length_append] at *;omega
   obtain ⟨W2,hW2⟩:∃ X,X=wr.alloc (.cells #[.string (mk [c]),.int .i64 n] 82):=⟨_,rfl⟩
   have HPC:=hid (HPT.out w.heap.size u (wordsAll (l.take k)) W2 (by rw [hW2];exact HS.out.on (LxP.alloc_below _ _)) [c] n HAT.out (by simp) hlw)
   have HW2:=hid hW2
   clear hlw HS hW2
   go_wp2_with fail
   rw [← HW2.out]
   refine HPC.out.mono ?_
   rintro e w6 ⟨rfl,u6,hs6,-⟩
   have HS6:=hid hs6
   clear hs6 HPC hA hB hC hcell HW2
   exact q134x1
  | marks c l2 lv =>
   simp only [Pt.val] at hcell
   obtain ⟨hl2,hl3,hi2⟩:=HAT.out
   have HI2:=hid hi2
   have HL2:=hid hl2
   obtain ⟨la,lc,rfl,hl4⟩:=TyP.ints_slice hl2
   have hA:=noW (t:=138) (by decide) (.agg #[.string (mk [c]),.slice la l2.length lc])
   have hB:=noN (t:=138) (by decide) (.agg #[.string (mk [c]),.slice la l2.length lc])
   have hC:=noM (t:=138) (by decide) (.agg #[.string (mk [c]),.slice la l2.length lc])
   have hD:=isL (.agg #[.string (mk [c]),.slice la l2.length lc])
   have HS2:Hid (PutS w w.heap.size u (wordsAll (l.take k)++(l2.take 0).map (mkw c)) (wr.alloc (.cells #[.string (mk [c]),.slice la l2.length lc] 138))):=by
    rw [List.take_zero,List.map_nil,List.append_nil]
    exact HS.out.on (LxP.alloc_below _ _)
   have HM2:Hid ((wr.alloc (.cells #[.string (mk [c]),.slice la l2.length lc] 138)).heap[wr.heap.size]?=some (.cells #[.string (mk [c]),.slice la l2.length lc] 138 (0,0))):=heap_alloc_new _ _
   clear HS hl2 hi2 HAT
   go_wp2
   obtain ⟨wo,hwo⟩:∃ wo:World,wo=wr:=⟨wr,rfl⟩
   subst hwo
   obtain ⟨gO,hgo⟩:∃ go:Nat,go=gk:=⟨gk,rfl⟩
   subst hgo
   go_loopg [12,49] l2.length (fun gj _ i w2=>∃ (j:Nat) (u2:Value),j+gj=l2.length∧i=.int .i64 j∧Hid (PutS w w.heap.size u2 (wordsAll (l.take k)++(l2.take j).map (mkw c)) w2)∧Hid (w2.heap[wo.heap.size]?=some (.cells #[.string (mk [c]),.slice la l2.length lc] 138 (0,0))))
   case atStart=>exact ⟨0,u,by omega,rfl,HS2,HM2⟩
   case round =>
    obtain ⟨j,u2,hj,rfl,HS3,HM3⟩:=hrel
    have HJ:=hid hj
    clear hj HS2 HM2 hcell hA hB hC hD
    by_cases hjl:j < l2.length
    rotate_left
    ·obtain rfl:j=l2.length:=by have:=HJ.out;omega
     have HS6:Hid (PutS w w.heap.size u2 (wordsAll (l.take (k+1))) wr):=by
      have:=HS3.out
      rw [List.take_length] at this
      rw [HNX.out]
      exact this
     clear HS3 HM3 HJ HI2 HL2 HLE HPT hjl
     generalize l2.length=n2 at *
     go_wp2
     go_roundg (gO - 1)
     case measure=>have:=HK.out;omega
     case rel=>exact ⟨k+1,_,by have:=HK.out;omega,by go_num,HS6⟩
    obtain ⟨b2,o2,rfl,hb2,hc2⟩:=TyP.ints_at (HL2.out.below HS3.out.be) j hjl
    have hc1:=(ShTB.cells_heap HM3.out).1 0 (by simp)
    simp only [List.getElem_toArray,List.getElem_cons_zero] at hc1
    have hlw:(wordsAll (l.take k)++(l2.take j).map (mkw c)).length≤100000:=by
     have:=HLE.out;have:=HL.out
     rw [List.length_append] at *
     simp only [Pt.words,List.length_map,List.length_take] at *
     omega
    have HPC:=hid (HPT.out w.heap.size u2 (wordsAll (l.take k)++(l2.take j).map (mkw c)) _ HS3.out [c] l2[j] (HI2.out _ (List.getElem_mem hjl)) (by simp) hlw)
    have HTK:Hid (∀ (h:j < l2.length),wordsAll (l.take k)++(l2.take (j+1)).map (mkw c)=wordsAll (l.take k)++(l2.take j).map (mkw c)++[mk ([c]++itoa l2[j])]):=fun h=>by
     rw [List.take_succ_eq_append_getElem h,List.map_append,List.append_assoc]
     rfl
    have HTK2:=hid (HTK.out hjl)
    clear hlw HTK
    have hji:(j:Int) < l2.length:=by omega
    generalize l2[j]=nj at *
    clear hjl
    have HJ2:Hid (gk=l2.length - j∧j < l2.length):=⟨by have:=HJ.out;omega,by omega⟩
    clear HJ
    generalize hn2:l2.length=n2 at *
    have HN2:=hid hn2
    clear hn2
    go_wp2_with fail
    refine HPC.out.mono ?_
    rintro e w6 ⟨rfl,u6,hs6,hkm⟩
    have HS6:=hid hs6
    have HM6:=hid (hkm _ _ _ HM3.out)
    clear hs6 hkm HPC HS3 HM3 hc1 hc2
    go_wp2
    go_roundg (gk - 1)
    case measure=>have:=HJ2.out;omega
    case rel=>exact ⟨j+1,u6,by have:=HJ2.out;omega,by go_num,by rw [HTK2.out];exact HS6,HM6⟩
end Go.Proofs.YtbebficgcemkoaaGreatDoor.WkL
