/- Walk over fescueref07.end. Walk over fescueref07.has: behind its registers. Walk over fescueref07.has: behind its registers. -/
import Derived.Test.YtbebficgcemkoaaGreatDoorYRgZToRgY
import Derived.Test.YtbebficgcemkoaaGreatDoorYRdAToWkA
import Derived.Deep.RegionHeld3
import Derived.Test.YtbebficgcemkoaaGreatDoorYRdHrToRdHB
set_option maxRecDepth 100000
set_option maxHeartbeats 16000000
namespace Go.Proofs.YtbebficgcemkoaaGreatDoor.RdE
open Go.RowKit Go.Lib TyM TyP ShM ShP ShB IntO SetP LxM LxJ LxY RdM RdA RdO RdB RgZ Aft

def EndR (l:List ByteArray) (w:World) (e:Ending) (w' : World):Prop:=∃ x:Ex,e=.returned (.tuple #[exV x,.bool (endP l).isSome])∧(∀ y,endP l=some y→x=y)∧Below w.heap.size w w'
theorem one_of {l:List Int} (h:l.length=1):∃ t,l=[t]:=by
 match l,h with
 | [t],_=>exact ⟨t,rfl⟩
theorem two_of {l:List Int} (h:l.length=2):∃ t e,l=[t,e]:=by
 match l,h with
 | [t,e],_=>exact ⟨t,e,rfl⟩
theorem q61x1 {P:Prop} (h:P:=by
 have hn:=aft_heap h3 HN.out
 have y0:=cells_of hn 0 _ rfl
 have y1:=cells_of hn 1 _ rfl
 have y2:=cells_of hn 2 _ rfl
 have y3:=cells_of hn 3 _ rfl
 have z0:=(ShTB.cells_heap hn).2 0
 have z1:=(ShTB.cells_heap hn).2 1
 have z2:=(ShTB.cells_heap hn).2 2
 have z3:=(ShTB.cells_heap hn).2 3
 obtain ⟨W3,hW3,_,hk3,hb3⟩:=set4_world w2 w.heap.size 52 (.int .u8 0) (.int .i64 0) (.int .i64 0) (.int .i64 0) (.int .u8 3) (.int .i64 qa) (.int .i64 0) (.int .i64 0) hn
 have HW3:=hid hW3
 have HB3:=hid (hb3 _ _ (h3.out HBW.out) (Nat.le_refl _))
 have x0:=cells_of hk3 0 _ rfl
 have x1:=cells_of hk3 1 _ rfl
 have x2:=cells_of hk3 2 _ rfl
 have x3:=cells_of hk3 3 _ rfl
 clear hn hW3 hk3 hb3
 go_wp2
 (try simp only [Exit.inBlock,Exit.then])
 rw [← HW3.out]
 refine bodyPost_ret (by simp [results,Tryz.results164,go_sem,x0,x1,x2,x3];try rfl) rfl ?_
 exact ⟨⟨3,qa,0,0⟩,by rw [HD.out];rfl,(fun y h=>by rw [HD.out] at h;cases h),HB3.out⟩):P:=h
theorem q61x2 {P:Prop} (h:P:=by
 have hn:=aft_heap h3 HN.out
 have y0:=cells_of hn 0 _ rfl
 have y1:=cells_of hn 1 _ rfl
 have y2:=cells_of hn 2 _ rfl
 have y3:=cells_of hn 3 _ rfl
 have z0:=(ShTB.cells_heap hn).2 0
 have z1:=(ShTB.cells_heap hn).2 1
 have z2:=(ShTB.cells_heap hn).2 2
 have z3:=(ShTB.cells_heap hn).2 3
 obtain ⟨W3,hW3,_,hk3,hb3⟩:=set4_world w2 w.heap.size 52 (.int .u8 0) (.int .i64 0) (.int .i64 0) (.int .i64 0) (.int .u8 0) (.int .i64 0) (.int .i64 0) (.int .i64 0) hn
 have HW3:=hid hW3
 have HB3:=hid (hb3 _ _ (h3.out HBW.out) (Nat.le_refl _))
 have x0:=cells_of hk3 0 _ rfl
 have x1:=cells_of hk3 1 _ rfl
 have x2:=cells_of hk3 2 _ rfl
 have x3:=cells_of hk3 3 _ rfl
 clear hn hW3 hk3 hb3
 go_wp2
 (try simp only [Exit.inBlock,Exit.then])
 rw [← HW3.out]
 refine bodyPost_ret (by simp [results,Tryz.results164,go_sem,x0,x1,x2,x3];try rfl) rfl ?_
 exact ⟨⟨0,0,0,0⟩,by rw [HD.out];rfl,(fun y h=>by rw [HD.out] at h;cases h),HB3.out⟩):P:=h
theorem q61x3 {P:Prop} (h:P:=by
 have x0:=cells_of hk3 0 _ rfl
 have x1:=cells_of hk3 1 _ rfl
 have x2:=cells_of hk3 2 _ rfl
 have x3:=cells_of hk3 3 _ rfl
 clear hn hW3 hk3 hb3
 go_wp2
 (try simp only [Exit.inBlock,Exit.then])
 rw [← HW3.out]
 refine bodyPost_ret (by simp [results,Tryz.results164,go_sem,x0,x1,x2,x3];try rfl) rfl ?_
 exact ⟨⟨0,0,0,0⟩,by rw [HD.out];rfl,(fun y h=>by rw [HD.out] at h;cases h),HB3.out⟩):P:=h
theorem end_calls (l:List ByteArray) (v:Value) (w:World) (hl:LxP.StrsAt w v l) (h1:1≤l.length) (hn:l.length≤100000) (hs:∀ x∈l,x.size≤9223372036854775807) :
  Calls Tryz.prog 164 #[v] w (EndR l w):=by
 obtain ⟨W,hW⟩:∃ W,W=w.alloc (.cells #[.int .u8 0,.int .i64 0,.int .i64 0,.int .i64 0] 52):=⟨_,rfl⟩
 have HBW:Hid (Below w.heap.size w W):=by show Below _ _ _;rw [hW];exact alloc_below _ _
 have HN:Hid (W.heap[w.heap.size]?=some (.cells #[.int .u8 0,.int .i64 0,.int .i64 0,.int .i64 0] 52 (0,0))):=by show _=_;rw [hW];exact alloc_new _ _
 have HW:=hid hW
 have HL:=hid (hl.below HBW.out)
 have HLW:=hid hl
 have HS:=hid hs
 obtain ⟨ao,cap,rfl,hll⟩:=hl.slice
 obtain ⟨b,off,rfl,c0⟩:=word_at hl 0 h1
 rw [Nat.add_zero] at c0
 have hbw:b < w.heap.size:=World.block_lt_of_cell? w _ c0
 have d0:=later ((HBW.out.cell (p:=⟨b,off,none⟩) hbw).trans c0)
 have h0:=Aft.refl W
 obtain ⟨v1,hv1,hr1'⟩:=strs_drop HL.out (k:=1) h1
 have hr1:∀ wx:World,(Instr.slice 74 (.slice (some ⟨b,off,none⟩) l.length cap) (some (.int .i64 1)) none none).run Tryz.prog wx=.ok v1 wx:=hr1'
 clear hr1'
 have HS0:=hid (hs _ (show l.getD 0 ⟨#[]⟩∈l by rw [List.getD_eq_getElem?_getD,List.getElem?_eq_getElem h1];exact List.getElem_mem h1))
 have HM1:=hid (marks_calls 98 (l.drop 1) v1 W hv1 (by simp;omega) (fun x hx=>hs x (List.mem_of_mem_drop hx)))
 rw [show (((98:UInt8).toNat:Nat):Int)=98 from rfl] at HM1
 have HD:Hid (endP l=if un (l.getD 0 ⟨#[]⟩)=[106,117,109,112] then (match marksO 98 (l.drop 1) with
  | some [t]=>some ⟨1,0,t,0⟩
  | _=>none)
  else if l.length < 2 then none
  else if un (l.getD 0 ⟨#[]⟩)=[114,101,116,117,114,110] then (if (mkN (l.getD 1 ⟨#[]⟩) 114).2=0∧marksO 98 (l.drop 2)=some [] then some ⟨3,(mkN (l.getD 1 ⟨#[]⟩) 114).1,0,0⟩ else none)
  else if (mkN (l.getD 1 ⟨#[]⟩) 114).2=0 then (match marksO 98 (l.drop 2) with
   | some [t,e]=>some ⟨2,(mkN (l.getD 1 ⟨#[]⟩) 114).1,t,e⟩
   | _=>none) else none):=rfl
 clear hl hW hs
 have e1:=str_eq (l.getD 0 ⟨#[]⟩) [106,117,109,112]
 have e2:=str_eq (l.getD 0 ⟨#[]⟩) [114,101,116,117,114,110]
 by_cases hj:un (l.getD 0 ⟨#[]⟩)=[106,117,109,112]
 ·rw [if_pos hj] at HD
  rw [decide_eq_true hj] at e1
  clear hj e2
  obtain ⟨sl1,hsl1⟩:=hv1.slice
  obtain ⟨cap1,rfl,_⟩:=hsl1
  generalize l.getD 0 ⟨#[]⟩=s0 at *
  clear hv1
  generalize (l.drop 1).length=n1 at *
  go_enter Tryz.func164,Tryz.ntmps164
  go_wp2_with fail
  rw [← HW.out]
  refine HM1.out.mono ?_
  rintro e w1 ⟨u,xs,rfl,hown,hsome,hnone,hb1⟩
  have h2:=h0.go hb1
  obtain ⟨ua,uc,rfl⟩:=own_slice hown
  have HOWN:=hid hown
  have HSM:=hid hsome
  clear hb1 hown hsome HM1
  cases hm:marksO 98 (l.drop 1) with
  | none =>
   rw [hm] at HD
   have hxs:=hnone hm
   subst hxs
   clear hm hnone HSM HOWN d0
   have hn:=aft_heap h2 HN.out
   have y0:=cells_of hn 0 _ rfl
   have y1:=cells_of hn 1 _ rfl
   have y2:=cells_of hn 2 _ rfl
   have y3:=cells_of hn 3 _ rfl
   have z0:=(ShTB.cells_heap hn).2 0
   have z1:=(ShTB.cells_heap hn).2 1
   have z2:=(ShTB.cells_heap hn).2 2
   have z3:=(ShTB.cells_heap hn).2 3
   obtain ⟨W3,hW3,_,hk3,hb3⟩:=set4_world w1 w.heap.size 52 (.int .u8 0) (.int .i64 0) (.int .i64 0) (.int .i64 0) (.int .u8 0) (.int .i64 0) (.int .i64 0) (.int .i64 0) hn
   have HW3:=hid hW3
   have HB3:=hid (hb3 _ _ (h2.out HBW.out) (Nat.le_refl _))
   exact q61x3
  | some r =>
   have hxs:=HSM.out r hm
   subst hxs
   rw [hm] at HD
   clear hm hnone HSM
   by_cases hx1:xs.length=1
   ·obtain ⟨t,rfl⟩:=one_of hx1
    obtain ⟨g,cap2,hg,_,_,_,hc⟩:=TyW.row_cells HOWN.out (by rw [intVals_length];exact Nat.zero_lt_one)
    cases hg
    have c1:=hc 0 (.int .i64 t) rfl
    clear hc hx1 HOWN d0
    have hn:=aft_heap h2 HN.out
    have y0:=cells_of hn 0 _ rfl
    have y1:=cells_of hn 1 _ rfl
    have y2:=cells_of hn 2 _ rfl
    have y3:=cells_of hn 3 _ rfl
    have z0:=(ShTB.cells_heap hn).2 0
    have z1:=(ShTB.cells_heap hn).2 1
    have z2:=(ShTB.cells_heap hn).2 2
    have z3:=(ShTB.cells_heap hn).2 3
    obtain ⟨W3,hW3,_,hk3,hb3⟩:=set4_world w1 w.heap.size 52 (.int .u8 0) (.int .i64 0) (.int .i64 0) (.int .i64 0) (.int .u8 1) (.int .i64 0) (.int .i64 t) (.int .i64 0) hn
    have HW3:=hid hW3
    have HB3:=hid (hb3 _ _ (h2.out HBW.out) (Nat.le_refl _))
    have x0:=cells_of hk3 0 _ rfl
    have x1:=cells_of hk3 1 _ rfl
    have x2:=cells_of hk3 2 _ rfl
    have x3:=cells_of hk3 3 _ rfl
    clear hn hW3 hk3 hb3
    go_wp2
    (try simp only [Exit.inBlock,Exit.then])
    rw [← HW3.out]
    refine bodyPost_ret (by simp [results,Tryz.results164,go_sem,x0,x1,x2,x3];try rfl) rfl ?_
    exact ⟨⟨1,0,t,0⟩,by rw [HD.out];rfl,(fun y h=>by rw [HD.out] at h;exact Option.some.inj h),HB3.out⟩
   ·have hd:endP l=none:=by
     rw [HD.out]
     match xs,hx1 with
     | [],_=>rfl
     | [_],h=>exact absurd rfl h
     | _ :: _ :: _,_=>rfl
    clear HD
    have HD:=hid hd
    have hx2:((xs.length:Int) != 1)=true:=by simp;omega
    clear hd hx1 HOWN d0
    generalize xs.length=xn at *
    have hn:=aft_heap h2 HN.out
    have y0:=cells_of hn 0 _ rfl
    have y1:=cells_of hn 1 _ rfl
    have y2:=cells_of hn 2 _ rfl
    have y3:=cells_of hn 3 _ rfl
    have z0:=(ShTB.cells_heap hn).2 0
    have z1:=(ShTB.cells_heap hn).2 1
    have z2:=(ShTB.cells_heap hn).2 2
    have z3:=(ShTB.cells_heap hn).2 3
    obtain ⟨W3,hW3,_,hk3,hb3⟩:=set4_world w1 w.heap.size 52 (.int .u8 0) (.int .i64 0) (.int .i64 0) (.int .i64 0) (.int .u8 0) (.int .i64 0) (.int .i64 0) (.int .i64 0) hn
    have HW3:=hid hW3
    have HB3:=hid (hb3 _ _ (h2.out HBW.out) (Nat.le_refl _))
    exact q61x3
 rw [if_neg hj] at HD
 rw [decide_eq_false hj] at e1
 clear hj HM1 hr1 hv1
 by_cases h2l:l.length < 2
 ·rw [if_pos h2l] at HD
  have hl2:(l.length:Int) < 2:=by omega
  clear h2l e2
  generalize l.length=ln at *
  generalize l.getD 0 ⟨#[]⟩=s0 at *
  go_enter Tryz.func164,Tryz.ntmps164
  go_wp2
  (try simp only [Exit.inBlock,Exit.then])
  refine bodyPost_ret (by simp [results,Tryz.results164,go_sem];try rfl) rfl ?_
  exact ⟨⟨0,0,0,0⟩,by rw [HD.out];rfl,(fun y h=>by rw [HD.out] at h;cases h),by rw [← HW.out];exact HBW.out⟩
 rw [if_neg h2l] at HD
 have hl2:¬ (l.length:Int) < 2:=by omega
 have h2n:2≤l.length:=by omega
 obtain ⟨b1,off1,hbb,c1⟩:=word_at HLW.out 1 (by omega)
 cases hbb
 have d1:=later ((HBW.out.cell (p:=⟨b,off+1,none⟩) hbw).trans c1)
 obtain ⟨v2,hv2,hr2'⟩:=strs_drop HL.out (k:=2) h2n
 have hr2:∀ wx:World,(Instr.slice 74 (.slice (some ⟨b,off,none⟩) l.length cap) (some (.int .i64 2)) none none).run Tryz.prog wx=.ok v2 wx:=hr2'
 have HMK:=hid (markR_calls (l.getD 1 ⟨#[]⟩) (HS.out _ (by rw [List.getD_eq_getElem?_getD,List.getElem?_eq_getElem (by omega:1 < l.length)];exact List.getElem_mem _)) 114 W)
 have HM2:=hid (fun wx (hx:Aft W wx)=>marks_calls 98 (l.drop 2) v2 wx (hv2.below hx.below) (by simp;omega) (fun x hx=>HS.out x (List.mem_of_mem_drop hx)))
 rw [show (((98:UInt8).toNat:Nat):Int)=98 from rfl] at HM2
 rw [show (((114:UInt8).toNat:Nat):Int)=114 from rfl] at HMK
 obtain ⟨sl2,cap2,rfl,_⟩:=hv2.slice
 clear h2l hr2' hv2 HL HLW HS0 HS
 generalize (l.drop 2).length=n2 at *
 generalize l.length=ln at *
 unfold MkR at HMK
 generalize l.getD 1 ⟨#[]⟩=s1 at *
 generalize l.getD 0 ⟨#[]⟩=s0 at *
 generalize mkN s1 114=q at *
 obtain ⟨qa,qe⟩:=q
 simp only at HMK HD
 go_enter Tryz.func164,Tryz.ntmps164
 go_wp2_with fail
 rw [← HW.out]
 refine HMK.out.mono ?_
 rintro e w1 ⟨rfl,hb1⟩
 have h2:=h0.go hb1
 have HMM:=hid (HM2.out w1 h2)
 clear hb1 HMK HM2
 go_wp2_with fail
 refine HMM.out.mono ?_
 rintro e w2 ⟨u,xs,rfl,hown,hsome,hnone,hb2⟩
 have h3:=h2.go hb2
 obtain ⟨ua,uc,rfl⟩:=own_slice hown
 have HOWN:=hid hown
 have HSM:=hid hsome
 clear hb2 hown hsome HMM
 by_cases hret:un s0=[114,101,116,117,114,110]
 ·rw [if_pos hret] at HD
  rw [decide_eq_true hret] at e2
  clear hret
  by_cases hq:qe=0
  ·subst hq
   cases hm:marksO 98 (l.drop 2) with
   | none =>
    rw [hm] at HD
    have hxs:=hnone hm
    subst hxs
    rw [if_neg (by simp)] at HD
    clear hm hnone HSM HOWN
    exact q61x1
   | some r =>
    have hxs:=HSM.out r hm
    subst hxs
    rw [hm] at HD
    clear hm hnone HSM HOWN
    by_cases hx0:xs=[]
    ·subst hx0
     rw [if_pos ⟨rfl,rfl⟩] at HD
     have hn:=aft_heap h3 HN.out
     have y0:=cells_of hn 0 _ rfl
     have y1:=cells_of hn 1 _ rfl
     have y2:=cells_of hn 2 _ rfl
     have y3:=cells_of hn 3 _ rfl
     have z0:=(ShTB.cells_heap hn).2 0
     have z1:=(ShTB.cells_heap hn).2 1
     have z2:=(ShTB.cells_heap hn).2 2
     have z3:=(ShTB.cells_heap hn).2 3
     obtain ⟨W3,hW3,_,hk3,hb3⟩:=set4_world w2 w.heap.size 52 (.int .u8 0) (.int .i64 0) (.int .i64 0) (.int .i64 0) (.int .u8 3) (.int .i64 qa) (.int .i64 0) (.int .i64 0) hn
     have HW3:=hid hW3
     have HB3:=hid (hb3 _ _ (h3.out HBW.out) (Nat.le_refl _))
     have x0:=cells_of hk3 0 _ rfl
     have x1:=cells_of hk3 1 _ rfl
     have x2:=cells_of hk3 2 _ rfl
     have x3:=cells_of hk3 3 _ rfl
     clear hn hW3 hk3 hb3
     go_wp2
     (try simp only [Exit.inBlock,Exit.then])
     rw [← HW3.out]
     refine bodyPost_ret (by simp [results,Tryz.results164,go_sem,x0,x1,x2,x3];try rfl) rfl ?_
     exact ⟨⟨3,qa,0,0⟩,by rw [HD.out];rfl,(fun y h=>by rw [HD.out] at h;exact Option.some.inj h),HB3.out⟩
    ·rw [if_neg (by simp [hx0])] at HD
     have hx2:((xs.length:Int) == 0)=false:=by
      have:xs.length≠0:=fun e=>hx0 (List.eq_nil_of_length_eq_zero e)
      simp;omega
     clear hx0
     generalize xs.length=xn at *
     exact q61x1
  ·rw [if_neg (fun h=>hq h.1)] at HD
   have hq2:(qe == 0)=false:=by simpa using hq
   clear hq hnone HSM HOWN
   generalize xs.length=xn at *
   exact q61x1
 rw [if_neg hret] at HD
 rw [decide_eq_false hret] at e2
 clear hret
 by_cases hq:qe=0
 rotate_left
 ·rw [if_neg hq] at HD
  have hq2:(qe != 0)=true:=by simpa using hq
  clear hq hnone HSM HOWN
  generalize xs.length=xn at *
  exact q61x2
 subst hq
 rw [if_pos rfl] at HD
 cases hm:marksO 98 (l.drop 2) with
 | none =>
  rw [hm] at HD
  have hxs:=hnone hm
  subst hxs
  clear hm hnone HSM HOWN
  exact q61x2
 | some r =>
  have hxs:=HSM.out r hm
  subst hxs
  rw [hm] at HD
  clear hm hnone HSM
  by_cases hx1:xs.length=2
  ·obtain ⟨t,e,rfl⟩:=two_of hx1
   obtain ⟨g,cap3,hg,_,_,_,hc⟩:=TyW.row_cells HOWN.out (by rw [intVals_length];exact Nat.zero_lt_two)
   cases hg
   have k0:=hc 0 (.int .i64 t) rfl
   have k1:=hc 1 (.int .i64 e) rfl
   clear hc hx1 HOWN
   have k0l:=later k0
   have k1l:=later k1
   have HHW:=hid (Aft.refl w2).drew
   have hn:=aft_heap h3 HN.out
   have HHN:=hid hn
   clear k0 k1 hn
   go_upto_region 14 with fail
   refine wp_region_noPanic ?_
   refine wp_region_Z (S:=(fun w'=>Aft w2 w')) (Z:=[8]) (by kernel_rfl) ?_ (fun hHeld=>?_)
   ·(try dsimp only)
    (exact HHW.out)
   refine zP 0 rfl ?_
   refine zP 1 rfl ?_
   refine zP 2 rfl ?_
   refine zT 3 rfl ?_
   refine zP 4 rfl ?_
   refine zP 5 rfl ?_
   refine zT 6 rfl ?_
   refine zP 7 rfl ?_
   refine zL 8 rfl (fun K hK=>?_)
   have y0:=(ShTB.cells_heap (w:=w2.drew) HHN.out).2 0
   have v0:=(ShTB.cells_heap HHN.out).2 0
   have f0:=cells_of (W:=w2.drew) HHN.out 0 _ rfl
   have e0:=cells_of HHN.out 0 _ rfl
   have y1:=(ShTB.cells_heap (w:=w2.drew) HHN.out).2 1
   have v1:=(ShTB.cells_heap HHN.out).2 1
   have f1:=cells_of (W:=w2.drew) HHN.out 1 _ rfl
   have e1:=cells_of HHN.out 1 _ rfl
   have y2:=(ShTB.cells_heap (w:=w2.drew) HHN.out).2 2
   have v2:=(ShTB.cells_heap HHN.out).2 2
   have f2:=cells_of (W:=w2.drew) HHN.out 2 _ rfl
   have e2:=cells_of HHN.out 2 _ rfl
   have y3:=(ShTB.cells_heap (w:=w2.drew) HHN.out).2 3
   have v3:=(ShTB.cells_heap HHN.out).2 3
   have f3:=cells_of (W:=w2.drew) HHN.out 3 _ rfl
   have e3:=cells_of HHN.out 3 _ rfl
   go_simp
   refine hK.out _ _ ?_
   clear hK K
   refine zL 9 rfl (fun K hK=>?_)
   go_simp
   refine hK.out _ _ ?_
   clear hK K
   try simp only [Act.put,List.setIfInBounds_toArray,List.set_cons_zero,List.set_cons_succ]
   refine wpAnyZ_done (by kernel_rfl) ?_ _
   refine NoPanic.normal ?_
   obtain ⟨W3,hW3,_,hk3,hb3⟩:=set4_worldD w2 w.heap.size 52 _ _ _ _ (.int .u8 2) (.int .i64 qa) (.int .i64 t) (.int .i64 e) HHN.out
   rw [← hW3]
   have HB3:=hid (hb3 _ _ (h3.out HBW.out) (Nat.le_refl _))
   have x0:=cells_of hk3 0 _ rfl
   have x1:=cells_of hk3 1 _ rfl
   have x2:=cells_of hk3 2 _ rfl
   have x3:=cells_of hk3 3 _ rfl
   clear hW3 hk3 hb3 y0 y1 y2 y3 v0 v1 v2 v3 f0 f1 f2 f3 e0 e1 e2 e3 HHN
   go_wp2
   (try simp only [Exit.inBlock,Exit.then])
   refine bodyPost_ret (by simp [results,Tryz.results164,go_sem,x0,x1,x2,x3];try rfl) rfl ?_
   exact ⟨⟨2,qa,t,e⟩,by rw [HD.out];rfl,(fun y h=>by rw [HD.out] at h;exact Option.some.inj h),HB3.out⟩
  ·have hd:endP l=none:=by
    rw [HD.out]
    match xs,hx1 with
    | [],_=>rfl
    | [_],_=>rfl
    | [_,_],h=>exact absurd rfl h
    | _ :: _ :: _ :: _,_=>rfl
   clear HD
   have HD:=hid hd
   have hx2:((xs.length:Int) != 2)=true:=by simp;omega
   clear hd hx1 HOWN
   generalize xs.length=xn at *
   exact q61x2
end Go.Proofs.YtbebficgcemkoaaGreatDoor.RdE
namespace Go.Proofs.YtbebficgcemkoaaGreatDoor.RdHC
open Go.RowKit Go.Lib TyM TyP ShM ShP ShB IntO SetP LxM LxJ LxY RwO RdM RdA RdO RdB RdP RdQ RdN Fresh Aft RgZ RdHs

theorem q67x1 {P:Prop} (h:P:=by
 intro W3 hk3 HB3 HOA HOF
 dsimp only at hk3
 have x0:=cells_of hk3 0 _ rfl;have x1:=cells_of hk3 1 _ rfl;have x2:=cells_of hk3 2 _ rfl;have x3:=cells_of hk3 3 _ rfl;have x4:=cells_of hk3 4 _ rfl;have x5:=cells_of hk3 5 _ rfl;have x6:=cells_of hk3 6 _ rfl
 clear hk3 HB7
 go_wp2
 (try simp only [Exit.inBlock,Exit.then])
 refine bodyPost_ret (by simp [results,Tryz.results176,go_sem,x0,x1,x2,x3,x4,x5,x6];try rfl) rfl ?_
 exact ⟨⟨op,typ,q0,q1,0,xs5,[]⟩,_,_,by rw [HN.out];rfl,(fun z h=>by rw [HN.out] at h;exact Option.some.inj h),⟨HOA.out,HOF.out⟩,HB3.out⟩):P:=h
theorem has_rest2f (op typ:Int) (l:List ByteArray) (v:Value) (w:World) (h0:0≤op) (h255:op≤255) (hl:LxP.StrsAt w v l) (hn:l.length≤100000) (hs:∀ x∈l,x.size≤9223372036854775807) (ho:(op == 22)=false) (hrg:regsN op=2) (hge:2≤l.length) (hnb:hasNB op=false) :
  Calls Tryz.prog 176 #[ixV (ix0 op typ) (.slice none 0 0) (.slice none 0 0),v] w (InsR (hasP op typ l) w):=by
 rw [show ixV (ix0 op typ) (.slice none 0 0) (.slice none 0 0)=.agg #[.int .u8 op,.int .i64 typ,.int .i64 0,.int .i64 0,.int .i64 0,.slice none 0 0,.slice none 0 0] from rfl]
 obtain ⟨V,hV⟩:∃ V,V=(w.alloc (.cells #[.int .u8 op,.int .i64 typ,.int .i64 0,.int .i64 0,.int .i64 0,.slice none 0 0,.slice none 0 0] 57)).alloc (.cells #[.int .u8 0,.int .i64 0,.int .i64 0,.int .i64 0,.int .i64 0,.slice none 0 0,.slice none 0 0] 57):=⟨_,rfl⟩
 have hbx:=start_box w op typ
 rw [← hV] at hbx
 have HV:=hid hV
 have HB0:=hid hbx
 have HLV:=hid (hl.below hbx.below)
 have HS:=hid hs
 have HLN:=hid hn
 have f0:V.cell? ⟨w.heap.size,0,none⟩=some (.int .u8 op):=cells_of hbx.box 0 _ rfl
 clear hV hs hbx hn

 have HUS:=hid (ShV.usesR_calls (ix0 op 0) (.slice none 0 0) (.slice none 0 0) V h0 h255 (ints_none V) (by simp [ix0]) ⟨_,_,_,rfl⟩)
 have HRG:=hid (regs_len op)
 have HHN:=hid (fun wx=>hasN_calls op wx)
 have HHR:=hid (fun wx=>hasArgs_calls op h0 h255 wx)
 have hop22:¬ op=22:=by simpa using ho
 obtain ⟨ao,cap,rfl,_⟩:=hl.slice
 obtain ⟨vt,hvt,hrt'⟩:=strs_take hl (k:=2) hge
 have hrt:∀ wx:World,(Instr.slice 74 (.slice ao l.length cap) none (some (.int .i64 2)) none).run Tryz.prog wx=.ok vt wx:=hrt'
 obtain ⟨vd,hvd,hrd'⟩:=strs_drop hl (k:=2) hge
 have hrd:∀ wx:World,(Instr.slice 74 (.slice ao l.length cap) (some (.int .i64 2)) none none).run Tryz.prog wx=.ok vd wx:=hrd'
 have HVD:=hid hvd
 have HM:=hid (fun wx (hx:Below w.heap.size w wx)=>marks_calls 114 (l.take 2) vt wx (hvt.below hx) (by have:=HLN.out;rw [List.length_take];omega) (fun x hx=>HS.out x (List.mem_of_mem_take hx)))
 rw [show (((114:UInt8).toNat:Nat):Int)=114 from rfl] at HM
 obtain ⟨slt,ct,rfl,_⟩:=hvt.slice
 obtain ⟨sld,cd,rfl,_⟩:=hvd.slice
 have hli:¬ (l.length:Int) < 2:=by omega
 have HTL:Hid ((l.take 2).length=2):=by show _=_;rw [List.length_take];omega
 have HDN:Hid ((l.drop 2).length≤100000):=by show _≤_;have:=HLN.out;rw [List.length_drop];omega
 have HSD:Hid (∀ x∈l.drop 2,x.size≤9223372036854775807):=fun x hx=>HS.out x (List.mem_of_mem_drop hx)
 clear hrt' hrd' hvt hvd
 clear hl h0 h255
 unfold OwnI at HUS
 go_enter Tryz.func176,Tryz.ntmps176
 go_wp2_with fail
 rw [← HV.out]
 clear HV
 refine HUS.out.mono ?_
 rintro e w1 ⟨uv,un,rfl,huo,hb1⟩
 have hun:un=2:=by have:=huo.1;have h2:=HRG.out;rw [intVals_length] at this;omega
 subst hun
 obtain ⟨ua,uc,rfl⟩:=own_form huo
 have HB1:=hid (HB0.out.on hb1)
 have HL1:=hid (HLV.out.below hb1)
 have HQ:Hid (hasP op typ l=if l.length < 2 then none else match marksO 114 (l.take 2) with
   | none=>none
   | some r=>restP op typ (if 0 < 2 then r.getD 0 0 else 0) (if 1 < 2 then r.getD 1 0 else 0) (l.drop 2)):=by
  show _=_
  unfold hasP
  rw [if_neg hop22,hrg]
  rfl
 clear huo hb1 HUS HB0 HLV HRG f0 hop22 hrg
 have hq:=HQ.out
 rw [if_neg (by omega)] at hq
 clear HQ
 have HQ:=hid hq
 clear hq hge
 generalize l.drop 2=m at *
 generalize l.take 2=mt at *
 generalize l.length=ln at *
 go_wp2_with fail
 refine (HM.out w1 HB1.out.below).mono ?_
 rintro e w2 ⟨u,xs,rfl,hown,hsome,hnone,hb2⟩
 obtain ⟨ua,uc,rfl⟩:=own_slice hown
 have HB2:=hid (HB1.out.on hb2)
 have HSM:=hid hsome
 have HOWN:=hid hown
 clear hsome hown hb2 HM HB1 HL1 hrt HLN HS
 cases hm:marksO 114 mt with
 | none =>
  have hq:=HQ.out
  rw [hm] at hq
  have HN:Hid (hasP op typ l=none):=hq
  have hxs:=hnone hm
  subst hxs
  clear hq HQ hm hnone HSM HOWN HTL
  have hbx:=HB2.out
  have hbo:=hbx.box
  have hre:=hbx.res
  have m0:=cells_of hbo 0 _ rfl;have m1:=cells_of hbo 1 _ rfl;have m2:=cells_of hbo 2 _ rfl;have m3:=cells_of hbo 3 _ rfl;have m4:=cells_of hbo 4 _ rfl;have m5:=cells_of hbo 5 _ rfl;have m6:=cells_of hbo 6 _ rfl
  have y0:=cells_of hre 0 _ rfl;have y1:=cells_of hre 1 _ rfl;have y2:=cells_of hre 2 _ rfl;have y3:=cells_of hre 3 _ rfl;have y4:=cells_of hre 4 _ rfl;have y5:=cells_of hre 5 _ rfl;have y6:=cells_of hre 6 _ rfl
  have hz:=(ShTB.cells_heap hre).2
  have z0:=hz 0;have z1:=hz 1;have z2:=hz 2;have z3:=hz 3;have z4:=hz 4;have z5:=hz 5;have z6:=hz 6
  obtain ⟨W3,hW3,hk3,hb3,hoa,hof⟩:=res_facts hbx
  have HW3:=hid hW3
  have HB3:=hid hb3
  have HOA:=hid hoa
  have HOF:=hid hof
  have x0:=cells_of hk3 0 _ rfl;have x1:=cells_of hk3 1 _ rfl;have x2:=cells_of hk3 2 _ rfl;have x3:=cells_of hk3 3 _ rfl;have x4:=cells_of hk3 4 _ rfl;have x5:=cells_of hk3 5 _ rfl;have x6:=cells_of hk3 6 _ rfl
  clear hW3 hk3 hb3 hoa hof hbo hre hbx hz
  go_wp2
  (try simp only [Exit.inBlock,Exit.then])
  rw [← HW3.out]
  refine bodyPost_ret (by simp [results,Tryz.results176,go_sem,x0,x1,x2,x3,x4,x5,x6];try rfl) rfl ?_
  exact ⟨⟨op,typ,0,0,0,[],[]⟩,_,_,by rw [HN.out];rfl,(fun z h=>by rw [HN.out] at h;cases h),⟨HOA.out,HOF.out⟩,HB3.out⟩
 | some r =>
  have hq:=HQ.out
  rw [hm] at hq
  have hxs:=HSM.out r hm
  subst hxs
  have hln:=(marks_len hm).trans HTL.out
  obtain ⟨q0,q1,rfl⟩:=two_of hln
  have HR:Hid (hasP op typ l=restP op typ q0 q1 m):=hq
  clear hq HQ hm hnone HSM hln HTL
  obtain ⟨g,cap2,hg,_,_,_,hc⟩:=TyW.row_cells HOWN.out (by rw [intVals_length];exact Nat.succ_pos _)
  cases hg
  have k0:=hc 0 (.int .i64 q0) rfl
  have z2:=(ShTB.cells_heap HB2.out.box).2 2
  have m2:=cells_of HB2.out.box 2 _ rfl
  clear hc
  go_upto_region 12 with fail
  obtain ⟨w4,hW4⟩:∃ wx,wx=w2.setCell ⟨w.heap.size,2,none⟩ (.int .i64 q0):=⟨_,rfl⟩
  rw [← hW4]
  have HB4:Hid (BoxP w (⟨op,typ,q0,0,0,[],[]⟩:Ix) (.slice none 0 0) (.slice none 0 0) [] [] w4):=by show BoxP _ _ _ _ _ _ _;rw [hW4];exact RdHs.BoxP.setA HB2.out q0
  have ho4:=owns_other HOWN.out (ShTB.grown_set w2 _ 2 (.int .i64 q0)) (ShTB.typed_at HB2.out.box) (by decide)
  rw [← hW4] at ho4
  obtain ⟨g2,cap3,hg2,_,_,_,hc⟩:=TyW.row_cells ho4 (by rw [intVals_length];exact Nat.succ_pos _)
  cases hg2
  have k1:=hc 1 (.int .i64 q1) rfl
  have z3:=(ShTB.cells_heap HB4.out.box).2 3
  have m3:=cells_of HB4.out.box 3 _ rfl
  clear hc ho4 hW4 HB2 HOWN z2 m2 k0
  go_upto_region 13 with fail
  obtain ⟨wr,hwr⟩:∃ wx,wx=w4.setCell ⟨w.heap.size,3,none⟩ (.int .i64 q1):=⟨_,rfl⟩
  rw [← hwr]
  have HBX:Hid (BoxP w (⟨op,typ,q0,q1,0,[],[]⟩:Ix) (.slice none 0 0) (.slice none 0 0) [] [] wr):=by show BoxP _ _ _ _ _ _ _;rw [hwr];exact RdHs.BoxP.setB HB4.out q1
  clear hwr HB4 z3 m3 k1
  have f0:wr.cell? ⟨w.heap.size,0,none⟩=some (.int .u8 op):=cells_of HBX.out.box 0 _ rfl
  go_wp2_with fail
  refine (HHN.out wr).mono ?_
  rintro e w3 ⟨rfl,rfl⟩
  rw [hnb]
  clear f0 HHN hrd
  have HP:Hid (hasP op typ l=match marksO 114 m with
    | none=>none
    | some q=>if m.length=0∨argsB op=true then some ⟨op,typ,q0,q1,0,q,[]⟩ else none):=by
   show _=_
   rw [HR.out]
   unfold restP
   rw [if_neg (by rw [hnb];decide)]
   rfl
  have HMD:=hid (fun wx (hx:Below w.heap.size w wx)=>marks_calls 114 m _ wx (HVD.out.below hx) HDN.out HSD.out)
  rw [show (((114:UInt8).toNat:Nat):Int)=114 from rfl] at HMD
  clear HR hnb
  go_wp2_with fail
  refine (HMD.out wr HBX.out.below).mono ?_
  rintro e w5 ⟨u5,xs5,rfl,hown5,hsome5,hnone5,hb5⟩
  have HBX5:=hid (HBX.out.on hb5)
  obtain ⟨ua5,uc5,rfl⟩:=own_slice hown5
  have HOW5:=hid (owns_base hown5 (by have:=HBX.out.size;omega:w.heap.size+2≤wr.heap.size))
  have z5:=(ShTB.cells_heap HBX5.out.box).2 5
  have m5:=cells_of HBX5.out.box 5 _ rfl
  have HSM:=hid hsome5
  clear hown5 hsome5 hb5 HMD HBX HVD
  go_upto_region 21 with fail
  obtain ⟨W7,hW7⟩:∃ wx,wx=w5.setCell ⟨w.heap.size,5,none⟩ (.slice ua5 xs5.length uc5):=⟨_,rfl⟩
  rw [← hW7]
  have HB7:Hid (BoxP w (⟨op,typ,q0,q1,0,[],[]⟩:Ix) (.slice ua5 xs5.length uc5) (.slice none 0 0) xs5 [] W7):=by
   show BoxP _ _ _ _ _ _ _
   rw [hW7]
   exact RdHs.BoxP.setL HBX5.out HOW5.out (fun g _ h=>by cases h)
  clear hW7 HBX5 HOW5 z5 m5
  generalize xs5.length=n5 at *
  cases hm5:marksO 114 m with
  | none =>
   have hq:=HP.out
   rw [hm5] at hq
   have HN:Hid (hasP op typ l=none):=hq
   have hxs:=hnone5 hm5
   subst hxs
   clear hq HP hm5 hnone5 HSM
   refine RdHr.rA HB7 ?_
   intro W3 hk3 HB3 HOA HOF
   dsimp only at hk3
   have x0:=cells_of hk3 0 _ rfl;have x1:=cells_of hk3 1 _ rfl;have x2:=cells_of hk3 2 _ rfl;have x3:=cells_of hk3 3 _ rfl;have x4:=cells_of hk3 4 _ rfl;have x5:=cells_of hk3 5 _ rfl;have x6:=cells_of hk3 6 _ rfl
   clear hk3 HB7
   go_wp2
   (try simp only [Exit.inBlock,Exit.then])
   refine bodyPost_ret (by simp [results,Tryz.results176,go_sem,x0,x1,x2,x3,x4,x5,x6];try rfl) rfl ?_
   exact ⟨⟨op,typ,q0,q1,0,[],[]⟩,_,_,by rw [HN.out];rfl,(fun z h=>by rw [HN.out] at h;cases h),⟨HOA.out,HOF.out⟩,HB3.out⟩
  | some q =>
   have hq:=HP.out
   rw [hm5] at hq
   have hxs:=HSM.out q hm5
   subst hxs
   clear HP hm5 hnone5 HSM
   by_cases hlz:m.length=0
   ·have HN:Hid (hasP op typ l=some ⟨op,typ,q0,q1,0,xs5,[]⟩):=hq.trans (if_pos (.inl hlz))
    have hz1:((m.length:Int) == 0)=true:=by rw [hlz];rfl
    clear hq hlz
    refine RdHr.rB HB7 hz1 ?_
    exact q67x1
   ·have hz1:((m.length:Int) == 0)=false:=by rw [beq_eq_false_iff_ne];omega
    cases hga:argsB op with
    | false =>
     have HN:Hid (hasP op typ l=none):=hq.trans (if_neg (by rw [hga];simp [hlz]))
     rw [hga] at HHR
     clear hq hlz hga
     refine RdHr.rC HB7 hz1 HHR ?_
     intro W3 hk3 HB3 HOA HOF
     dsimp only at hk3
     have x0:=cells_of hk3 0 _ rfl;have x1:=cells_of hk3 1 _ rfl;have x2:=cells_of hk3 2 _ rfl;have x3:=cells_of hk3 3 _ rfl;have x4:=cells_of hk3 4 _ rfl;have x5:=cells_of hk3 5 _ rfl;have x6:=cells_of hk3 6 _ rfl
     clear hk3 HB7
     go_wp2
     (try simp only [Exit.inBlock,Exit.then])
     refine bodyPost_ret (by simp [results,Tryz.results176,go_sem,x0,x1,x2,x3,x4,x5,x6];try rfl) rfl ?_
     exact ⟨⟨op,typ,q0,q1,0,xs5,[]⟩,_,_,by rw [HN.out];rfl,(fun z h=>by rw [HN.out] at h;cases h),⟨HOA.out,HOF.out⟩,HB3.out⟩
    | true =>
     have HN:Hid (hasP op typ l=some ⟨op,typ,q0,q1,0,xs5,[]⟩):=hq.trans (if_pos (by rw [hga];simp))
     rw [hga] at HHR
     clear hq hlz hga
     refine RdHr.rC HB7 hz1 HHR ?_
     exact q67x1
end Go.Proofs.YtbebficgcemkoaaGreatDoor.RdHC
namespace Go.Proofs.YtbebficgcemkoaaGreatDoor.RdHD
open Go.RowKit Go.Lib TyM TyP ShM ShP ShB IntO SetP LxM LxJ LxY RwO RdM RdA RdO RdB RdP RdQ RdN Fresh Aft RgZ RdHs

theorem q68x1 {P:Prop} (h:P:=by
 intro W3 hk3 HB3 HOA HOF
 dsimp only at hk3
 have x0:=cells_of hk3 0 _ rfl;have x1:=cells_of hk3 1 _ rfl;have x2:=cells_of hk3 2 _ rfl;have x3:=cells_of hk3 3 _ rfl;have x4:=cells_of hk3 4 _ rfl;have x5:=cells_of hk3 5 _ rfl;have x6:=cells_of hk3 6 _ rfl
 clear hk3 HB7
 go_wp2
 (try simp only [Exit.inBlock,Exit.then])
 refine bodyPost_ret (by simp [results,Tryz.results176,go_sem,x0,x1,x2,x3,x4,x5,x6];try rfl) rfl ?_
 exact ⟨⟨op,typ,0,0,nv,xs5,[]⟩,_,_,by rw [HN.out];rfl,(fun z h=>by rw [HN.out] at h;exact Option.some.inj h),⟨HOA.out,HOF.out⟩,HB3.out⟩):P:=h
theorem q68x2 {P:Prop} (h:P:=by
 intro W3 hk3 HB3 HOA HOF
 dsimp only at hk3
 have x0:=cells_of hk3 0 _ rfl;have x1:=cells_of hk3 1 _ rfl;have x2:=cells_of hk3 2 _ rfl;have x3:=cells_of hk3 3 _ rfl;have x4:=cells_of hk3 4 _ rfl;have x5:=cells_of hk3 5 _ rfl;have x6:=cells_of hk3 6 _ rfl
 clear hk3 HB7
 go_wp2
 (try simp only [Exit.inBlock,Exit.then])
 refine bodyPost_ret (by simp [results,Tryz.results176,go_sem,x0,x1,x2,x3,x4,x5,x6];try rfl) rfl ?_
 exact ⟨⟨op,typ,0,0,nv,xs5,[]⟩,_,_,by rw [HN.out];rfl,(fun z h=>by rw [HN.out] at h;cases h),⟨HOA.out,HOF.out⟩,HB3.out⟩):P:=h
theorem has_rest0t (op typ:Int) (l:List ByteArray) (v:Value) (w:World) (h0:0≤op) (h255:op≤255) (hl:LxP.StrsAt w v l) (hn:l.length≤100000) (hs:∀ x∈l,x.size≤9223372036854775807) (ho:(op == 22)=false) (hrg:regsN op=0) (hge:0≤l.length) (hnb:hasNB op=true) :
  Calls Tryz.prog 176 #[ixV (ix0 op typ) (.slice none 0 0) (.slice none 0 0),v] w (InsR (hasP op typ l) w):=by
 rw [show ixV (ix0 op typ) (.slice none 0 0) (.slice none 0 0)=.agg #[.int .u8 op,.int .i64 typ,.int .i64 0,.int .i64 0,.int .i64 0,.slice none 0 0,.slice none 0 0] from rfl]
 obtain ⟨V,hV⟩:∃ V,V=(w.alloc (.cells #[.int .u8 op,.int .i64 typ,.int .i64 0,.int .i64 0,.int .i64 0,.slice none 0 0,.slice none 0 0] 57)).alloc (.cells #[.int .u8 0,.int .i64 0,.int .i64 0,.int .i64 0,.int .i64 0,.slice none 0 0,.slice none 0 0] 57):=⟨_,rfl⟩
 have hbx:=start_box w op typ
 rw [← hV] at hbx
 have HV:=hid hV
 have HB0:=hid hbx
 have HLV:=hid (hl.below hbx.below)
 have HS:=hid hs
 have HLN:=hid hn
 have f0:V.cell? ⟨w.heap.size,0,none⟩=some (.int .u8 op):=cells_of hbx.box 0 _ rfl
 clear hV hs hbx hn

 have HUS:=hid (ShV.usesR_calls (ix0 op 0) (.slice none 0 0) (.slice none 0 0) V h0 h255 (ints_none V) (by simp [ix0]) ⟨_,_,_,rfl⟩)
 have HRG:=hid (regs_len op)
 have HHN:=hid (fun wx=>hasN_calls op wx)
 have HHR:=hid (fun wx=>hasArgs_calls op h0 h255 wx)
 have hop22:¬ op=22:=by simpa using ho
 obtain ⟨ao,cap,rfl,_⟩:=hl.slice
 obtain ⟨vt,hvt,hrt'⟩:=strs_take hl (k:=0) hge
 have hrt:∀ wx:World,(Instr.slice 74 (.slice ao l.length cap) none (some (.int .i64 0)) none).run Tryz.prog wx=.ok vt wx:=hrt'
 obtain ⟨vd,hvd,hrd'⟩:=strs_drop hl (k:=0) hge
 have hrd:∀ wx:World,(Instr.slice 74 (.slice ao l.length cap) (some (.int .i64 0)) none none).run Tryz.prog wx=.ok vd wx:=hrd'
 have HVD:=hid hvd
 have HM:=hid (fun wx (hx:Below w.heap.size w wx)=>marks_calls 114 (l.take 0) vt wx (hvt.below hx) (by have:=HLN.out;rw [List.length_take];omega) (fun x hx=>HS.out x (List.mem_of_mem_take hx)))
 rw [show (((114:UInt8).toNat:Nat):Int)=114 from rfl] at HM
 obtain ⟨slt,ct,rfl,_⟩:=hvt.slice
 obtain ⟨sld,cd,rfl,_⟩:=hvd.slice
 have hli:¬ (l.length:Int) < 0:=by omega
 have HTL:Hid ((l.take 0).length=0):=by show _=_;rw [List.length_take];omega
 have HDN:Hid ((l.drop 0).length≤100000):=by show _≤_;have:=HLN.out;rw [List.length_drop];omega
 have HSD:Hid (∀ x∈l.drop 0,x.size≤9223372036854775807):=fun x hx=>HS.out x (List.mem_of_mem_drop hx)
 clear hrt' hrd' hvt hvd
 clear hl h0 h255
 unfold OwnI at HUS
 go_enter Tryz.func176,Tryz.ntmps176
 go_wp2_with fail
 rw [← HV.out]
 clear HV
 refine HUS.out.mono ?_
 rintro e w1 ⟨uv,un,rfl,huo,hb1⟩
 have hun:un=0:=by have:=huo.1;have h2:=HRG.out;rw [intVals_length] at this;omega
 subst hun
 obtain ⟨ua,uc,rfl⟩:=own_form huo
 have HB1:=hid (HB0.out.on hb1)
 have HL1:=hid (HLV.out.below hb1)
 have HQ:Hid (hasP op typ l=if l.length < 0 then none else match marksO 114 (l.take 0) with
   | none=>none
   | some r=>restP op typ (if 0 < 0 then r.getD 0 0 else 0) (if 1 < 0 then r.getD 1 0 else 0) (l.drop 0)):=by
  show _=_
  unfold hasP
  rw [if_neg hop22,hrg]
  rfl
 clear huo hb1 HUS HB0 HLV HRG f0 hop22 hrg
 have hq:=HQ.out
 rw [if_neg (by omega)] at hq
 clear HQ
 have HQ:=hid hq
 clear hq hge
 have hmt:marksO 114 (l.take 0)=some []:=rfl
 generalize l.drop 0=m at *
 generalize l.take 0=mt at *
 generalize l.length=ln at *
 go_wp2_with fail
 refine (HM.out w1 HB1.out.below).mono ?_
 rintro e w2 ⟨u,xs,rfl,hown,hsome,hnone,hb2⟩
 obtain ⟨ua,uc,rfl⟩:=own_slice hown
 have HB2:=hid (HB1.out.on hb2)
 have HSM:=hid hsome
 have HOWN:=hid hown
 clear hsome hown hb2 HM HB1 HL1 hrt HLN HS
 have hq:=HQ.out
 rw [hmt] at hq
 rw [hmt]
 have hxs:=HSM.out _ hmt
 subst hxs
 have HR:Hid (hasP op typ l=restP op typ 0 0 m):=hq
 have HBX:Hid (BoxP w (⟨op,typ,0,0,0,[],[]⟩:Ix) (.slice none 0 0) (.slice none 0 0) [] [] w2):=HB2
 clear hq HQ hnone HSM HOWN HB2 HTL hmt
 obtain ⟨wr,hwr⟩:∃ wr,wr=w2:=⟨_,rfl⟩
 subst hwr
 have f0:wr.cell? ⟨w.heap.size,0,none⟩=some (.int .u8 op):=cells_of HBX.out.box 0 _ rfl
 go_wp2_with fail
 refine (HHN.out wr).mono ?_
 rintro e w3 ⟨rfl,rfl⟩
 rw [hnb]
 clear f0 HHN hrd
 by_cases hz:m.length=0
 ·have HN:Hid (hasP op typ l=none):=by
   show _=_
   rw [HR.out]
   unfold restP
   rw [if_pos hnb,if_pos hz]
  have hz0:((m.length:Int) == 0)=true:=by rw [hz];rfl
  clear HR hz hnb
  have hbx:=HBX.out
  have hbo:=hbx.box
  have hre:=hbx.res
  have m0:=cells_of hbo 0 _ rfl;have m1:=cells_of hbo 1 _ rfl;have m2:=cells_of hbo 2 _ rfl;have m3:=cells_of hbo 3 _ rfl;have m4:=cells_of hbo 4 _ rfl;have m5:=cells_of hbo 5 _ rfl;have m6:=cells_of hbo 6 _ rfl
  have y0:=cells_of hre 0 _ rfl;have y1:=cells_of hre 1 _ rfl;have y2:=cells_of hre 2 _ rfl;have y3:=cells_of hre 3 _ rfl;have y4:=cells_of hre 4 _ rfl;have y5:=cells_of hre 5 _ rfl;have y6:=cells_of hre 6 _ rfl
  have hz:=(ShTB.cells_heap hre).2
  have z0:=hz 0;have z1:=hz 1;have z2:=hz 2;have z3:=hz 3;have z4:=hz 4;have z5:=hz 5;have z6:=hz 6
  obtain ⟨W3,hW3,hk3,hb3,hoa,hof⟩:=res_facts hbx
  have HW3:=hid hW3
  have HB3:=hid hb3
  have HOA:=hid hoa
  have HOF:=hid hof
  have x0:=cells_of hk3 0 _ rfl;have x1:=cells_of hk3 1 _ rfl;have x2:=cells_of hk3 2 _ rfl;have x3:=cells_of hk3 3 _ rfl;have x4:=cells_of hk3 4 _ rfl;have x5:=cells_of hk3 5 _ rfl;have x6:=cells_of hk3 6 _ rfl
  clear hW3 hk3 hb3 hoa hof hbo hre hbx hz
  go_wp2
  (try simp only [Exit.inBlock,Exit.then])
  rw [← HW3.out]
  refine bodyPost_ret (by simp [results,Tryz.results176,go_sem,x0,x1,x2,x3,x4,x5,x6];try rfl) rfl ?_
  exact ⟨⟨op,typ,0,0,0,[],[]⟩,_,_,by rw [HN.out];rfl,(fun z h=>by rw [HN.out] at h;cases h),⟨HOA.out,HOF.out⟩,HB3.out⟩
 have HP:Hid (hasP op typ l=match marksO 114 (m.drop 1) with
   | none=>none
   | some q=>if (numP op (m.getD 0 ⟨#[]⟩)).2=true∧(m.length=1∨argsB op=true) then some ⟨op,typ,0,0,(numP op (m.getD 0 ⟨#[]⟩)).1,q,[]⟩ else none):=by
  show _=_
  rw [HR.out]
  unfold restP
  rw [if_pos hnb,if_neg hz]
  rfl
 have hz0:((m.length:Int) == 0)=false:=by rw [beq_eq_false_iff_ne];omega
 have hm1:1≤m.length:=by omega
 have hlp:(0:Int) < m.length:=by omega
 have hlpn:0 < m.length:=hm1
 obtain ⟨bw,ow,rfl,cw⟩:=word_at HVD.out 0 hm1
 rw [Nat.add_zero] at cw
 have dw:=later ((HBX.out.below.cell (p:=⟨bw,ow,none⟩) (World.block_lt_of_cell? w _ cw)).trans cw)
 have d0:∀ w',Aft wr w'→w'.cell? ⟨w.heap.size,0,none⟩=some (.int .u8 op):=later (cells_of HBX.out.box 0 _ rfl)
 obtain ⟨v1,hv1,hr1'⟩:=strs_drop HVD.out (k:=1) hm1
 have hr1:∀ wx:World,(Instr.slice 74 (.slice (some ⟨bw,ow,none⟩) m.length cd) (some (.int .i64 1)) none none).run Tryz.prog wx=.ok v1 wx:=hr1'
 have HMD:=hid (fun wx (hx:Below w.heap.size w wx)=>marks_calls 114 (m.drop 1) v1 wx (hv1.below hx) (by have:=HDN.out;rw [List.length_drop];omega) (fun x hx=>HSD.out x (List.mem_of_mem_drop hx)))
 rw [show (((114:UInt8).toNat:Nat):Int)=114 from rfl] at HMD
 obtain ⟨sl1,c1,rfl,_⟩:=hv1.slice
 have HNI:=hid (fun wx=>number_calls op (m.getD 0 ⟨#[]⟩) (HSD.out _ (by rw [List.getD_eq_getElem?_getD,List.getElem?_eq_getElem hm1];exact List.getElem_mem _)) wx)
 have HD1:Hid ((m.drop 1).length=m.length - 1):=by show _=_;simp
 generalize m.drop 1=m1 at *
 generalize m1.length=n1 at *
 unfold NumIR at HNI
 generalize m.getD 0 ⟨#[]⟩=sw at *
 generalize numP op sw=pn at *
 obtain ⟨nv,okn⟩:=pn
 simp only at HNI HP
 clear hr1' hv1 HR hz cw hnb
 go_upto_region 17 with fail
 have HHW:=hid (Aft.refl wr).drew
 refine wp_region_noPanic ?_
 refine wp_region_Z (S:=(fun w'=>Aft wr w')) (Z:=[10]) (by kernel_rfl) ?_ (fun hHeld=>?_)
 ·(try dsimp only)
  (exact HHW.out)
 refine zP 0 rfl ?_
 refine zT 1 rfl ?_
 refine zP 2 rfl ?_
 refine zP 3 rfl ?_
 refine zT 4 rfl ?_
 refine zC 5 rfl (fun K hK=>?_)
 go_simp
 refine (HNI.out _).mono ?_
 rintro e w5 ⟨rfl,hb5⟩
 refine hK.out _ _ ?_ (fun hHeld=>?_)
 ·(try dsimp only)
  (exact HHW.out.go hb5)
 clear hK K
 refine zP 6 rfl ?_
 refine zP 7 rfl ?_
 refine zP 8 rfl ?_
 refine zP 9 rfl ?_
 refine zL 10 rfl (fun K hK=>?_)
 have HB5:=hid ((HBX.out.on (HHW.out.below)).on hb5)
 have z4:=(ShTB.cells_heap HB5.out.box).2 4
 have m4:=cells_of HB5.out.box 4 _ rfl
 go_simp
 refine hK.out _ _ ?_
 clear hK K
 refine zL 11 rfl (fun K hK=>?_)
 go_simp
 refine hK.out _ _ ?_
 clear hK K
 try simp only [Act.put,List.setIfInBounds_toArray,List.set_cons_zero,List.set_cons_succ]
 refine wpAnyZ_done (by kernel_rfl) ?_ _
 refine NoPanic.normal ?_
 obtain ⟨W8,hW8⟩:∃ wx,wx=w5.setCell ⟨w.heap.size,4,none⟩ (.int .i64 nv):=⟨_,rfl⟩
 rw [← hW8]
 have HBY:Hid (BoxP w (⟨op,typ,0,0,nv,[],[]⟩:Ix) (.slice none 0 0) (.slice none 0 0) [] [] W8):=by show BoxP _ _ _ _ _ _ _;rw [hW8];exact RdHs.BoxP.setN HB5.out nv
 clear hW8 hb5 HB5 HBX z4 m4 HHW HNI dw d0 hlp hlpn hz0
 have HBX:=HBY
 obtain ⟨wr,hwr⟩:∃ wx,wx=W8:=⟨_,rfl⟩
 subst hwr
 go_wp2_with fail
 refine (HMD.out wr HBX.out.below).mono ?_
 rintro e w5 ⟨u5,xs5,rfl,hown5,hsome5,hnone5,hb5⟩
 have HBX5:=hid (HBX.out.on hb5)
 obtain ⟨ua5,uc5,rfl⟩:=own_slice hown5
 have HOW5:=hid (owns_base hown5 (by have:=HBX.out.size;omega:w.heap.size+2≤wr.heap.size))
 have z5:=(ShTB.cells_heap HBX5.out.box).2 5
 have m5:=cells_of HBX5.out.box 5 _ rfl
 have HSM:=hid hsome5
 clear hown5 hsome5 hb5 HMD HBX HVD
 go_upto_region 21 with fail
 obtain ⟨W7,hW7⟩:∃ wx,wx=w5.setCell ⟨w.heap.size,5,none⟩ (.slice ua5 xs5.length uc5):=⟨_,rfl⟩
 rw [← hW7]
 have HB7:Hid (BoxP w (⟨op,typ,0,0,nv,[],[]⟩:Ix) (.slice ua5 xs5.length uc5) (.slice none 0 0) xs5 [] W7):=by
  show BoxP _ _ _ _ _ _ _
  rw [hW7]
  exact RdHs.BoxP.setL HBX5.out HOW5.out (fun g _ h=>by cases h)
 clear hW7 HBX5 HOW5 z5 m5
 generalize xs5.length=n5 at *
 cases okn with
 | false =>
  have HN:Hid (hasP op typ l=none):=by
   show _=_
   rw [HP.out]
   cases marksO 114 m1 with
   | none=>rfl
   | some q=>exact if_neg (fun h=>by cases h.1)
  clear hnone5 HSM HP
  refine RdHr.rD HB7 ?_
  exact q68x2
 | true =>
  cases hm5:marksO 114 m1 with
  | none =>
   have hq:=HP.out
   rw [hm5] at hq
   have HN:Hid (hasP op typ l=none):=hq
   have hxs:=hnone5 hm5
   subst hxs
   clear hq HP hm5 hnone5 HSM
   refine RdHr.rA HB7 ?_
   intro W3 hk3 HB3 HOA HOF
   dsimp only at hk3
   have x0:=cells_of hk3 0 _ rfl;have x1:=cells_of hk3 1 _ rfl;have x2:=cells_of hk3 2 _ rfl;have x3:=cells_of hk3 3 _ rfl;have x4:=cells_of hk3 4 _ rfl;have x5:=cells_of hk3 5 _ rfl;have x6:=cells_of hk3 6 _ rfl
   clear hk3 HB7
   go_wp2
   (try simp only [Exit.inBlock,Exit.then])
   refine bodyPost_ret (by simp [results,Tryz.results176,go_sem,x0,x1,x2,x3,x4,x5,x6];try rfl) rfl ?_
   exact ⟨⟨op,typ,0,0,nv,[],[]⟩,_,_,by rw [HN.out];rfl,(fun z h=>by rw [HN.out] at h;cases h),⟨HOA.out,HOF.out⟩,HB3.out⟩
  | some q =>
   have hq:=HP.out
   rw [hm5] at hq
   have hxs:=HSM.out q hm5
   subst hxs
   clear HP hm5 hnone5 HSM
   by_cases hlz:m.length=1
   ·have HN:Hid (hasP op typ l=some ⟨op,typ,0,0,nv,xs5,[]⟩):=hq.trans (if_pos ⟨rfl,.inl hlz⟩)
    have hz1:((n1:Int) == 0)=true:=by rw [HD1.out,hlz];rfl
    clear hq hlz
    refine RdHr.rB HB7 hz1 ?_
    exact q68x1
   ·have hz1:((n1:Int) == 0)=false:=by rw [beq_eq_false_iff_ne];have:=HD1.out;omega
    cases hga:argsB op with
    | false =>
     have HN:Hid (hasP op typ l=none):=hq.trans (if_neg (by rw [hga];simp [hlz]))
     rw [hga] at HHR
     clear hq hlz hga
     refine RdHr.rC HB7 hz1 HHR ?_
     exact q68x2
    | true =>
     have HN:Hid (hasP op typ l=some ⟨op,typ,0,0,nv,xs5,[]⟩):=hq.trans (if_pos (by rw [hga];simp))
     rw [hga] at HHR
     clear hq hlz hga
     refine RdHr.rC HB7 hz1 HHR ?_
     exact q68x1
end Go.Proofs.YtbebficgcemkoaaGreatDoor.RdHD
