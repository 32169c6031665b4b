/- Walks over fescueref12.Typed, by the operation: 4..10. -/
import Derived.Test.YtpejpnffcepdlaaGreatDoorYRgZToRgY
import Derived.Test.YtpejpnffcepdlaaGreatDoorYSvQToSwU
import Derived.Test.YtpejpnffcepdlaaGreatDoorYShIToFvEU
import Derived.Deep.RegionHeld3
set_option maxRecDepth 100000
set_option maxHeartbeats 16000000
namespace Go.Proofs.YtpejpnffcepdlaaGreatDoor.SwW
open Go.RowKit Go.Lib RwO SetP IntO TyM TyP TyB TyC TyRA TyRE ShM ShP ShA ShB ShC ShE ShRA ShH ShI ShJ ShRG Aft FwM FwC FwP FwQ FwR FvA FvB FdQ LvM SvQ SvP SwA SwM RgZ IntG

theorem typed4_of (p:Px) (xty xa1 xb1 xn1:Int) (xar xfr:List Int) (aa:Option Addr) (an ac:Nat) (ra:Option Addr) (rn rc:Nat) (l:List Int) (v vl:Value) (w:World) (hp:PrAt w v p) (hl:IntsAt w vl l) (hl1:1 < l.length) (hlt:∀ n∈l,n < p.types.length) (hty:xty < p.types.length) :
  Calls Tryz.prog 128 #[v,.agg #[.int .u8 4,.int .i64 xty,.int .i64 xa1,.int .i64 xb1,.int .i64 xn1,.slice aa an ac,.slice ra rn rc],vl] w (BoolR (typedB p ⟨4,xty,xa1,xb1,xn1,xar,xfr⟩ l) w):=by
 have hp0:=hp
 obtain ⟨vt,vf0,rfl,ht,hf⟩:=hp
 obtain ⟨W1,hW1⟩:∃ W1,W1=w.alloc (.cells #[vt,vf0] 27):=⟨_,rfl⟩
 obtain ⟨W,hW⟩:∃ W,W=W1.alloc (.cells #[.int .u8 4,.int .i64 xty,.int .i64 xa1,.int .i64 xb1,.int .i64 xn1,.slice aa an ac,.slice ra rn rc] 31):=⟨_,rfl⟩
 have hb1:Below w.heap.size w W1:=by rw [hW1];exact alloc_below _ _
 have hs1:W1.heap.size=w.heap.size+1:=by rw [hW1];simp
 have hb2:Below W1.heap.size W1 W:=by rw [hW];exact alloc_below _ _
 have k0:W1.heap[w.heap.size]?=some (.cells #[vt,vf0] 27 (0,0)):=by rw [hW1];exact alloc_new _ _
 have k1:W.heap[W1.heap.size]?=some (.cells #[.int .u8 4,.int .i64 xty,.int .i64 xa1,.int .i64 xb1,.int .i64 xn1,.slice aa an ac,.slice ra rn rc] 31 (0,0)):=by rw [hW];exact TyD.alloc_new _ _
 have k2:W.heap[w.heap.size]?=some (.cells #[vt,vf0] 27 (0,0)):=(hb2.block _ (Array.getElem?_eq_some_iff.1 k0).1).trans k0
 have hbW:Below w.heap.size w W:=hb1.trans (hb2.mono hb1.size)
 have HP:=hid (hp0.below hbW)
 have HLI:=hid (hl.below hbW)
 have hfW:=hf.below fnStays hbW
 obtain ⟨ta,tc,rfl⟩:=ht.slice
 obtain ⟨fa,fc,rfl,_⟩:=hf.slice
 obtain ⟨la,lc,rfl,_⟩:=ints_slice hl
 rw [hs1] at k1
 have l0:∀ w',Aft W w'→w'.cell? ⟨w.heap.size,0,none⟩=some (.slice ta p.types.length tc):=later_cells k2 0 _ rfl
 have l1:∀ w',Aft W w'→w'.cell? ⟨w.heap.size,1,none⟩=some (.slice fa p.funcs.length fc):=later_cells k2 1 _ rfl
 have m0:∀ w',Aft W w'→w'.cell? ⟨w.heap.size+1,0,none⟩=some (.int .u8 4):=later_cells k1 0 _ rfl
 have m1:∀ w',Aft W w'→w'.cell? ⟨w.heap.size+1,1,none⟩=some (.int .i64 xty):=later_cells k1 1 _ rfl
 have m2:∀ w',Aft W w'→w'.cell? ⟨w.heap.size+1,2,none⟩=some (.int .i64 xa1):=later_cells k1 2 _ rfl
 have m3:∀ w',Aft W w'→w'.cell? ⟨w.heap.size+1,3,none⟩=some (.int .i64 xb1):=later_cells k1 3 _ rfl
 have m4:∀ w',Aft W w'→w'.cell? ⟨w.heap.size+1,4,none⟩=some (.int .i64 xn1):=later_cells k1 4 _ rfl
 have m5:∀ w',Aft W w'→w'.cell? ⟨w.heap.size+1,5,none⟩=some (.slice aa an ac):=later_cells k1 5 _ rfl
 have m6:∀ w',Aft W w'→w'.cell? ⟨w.heap.size+1,6,none⟩=some (.slice ra rn rc):=later_cells k1 6 _ rfl
 have HBW:=hid hbW
 have HW1:=hid hW1
 have HW:=hid hW
 have h0:=Aft.refl W
 have h0d:=h0.drew
 have HM:Hid (typedB p ⟨4,xty,xa1,xb1,xn1,xar,xfr⟩ l=(isK p.types (l.getD 0 0) 1 && (isK p.types (l.getD 1 0) 1 && isK p.types xty 1))):=by show _=_;first | rfl | simp [typedB]
 clear hp0 ht hf hl hW1 hW hb1 hb2 hs1 k0 k1 k2 hbW
 have hl0:0 < l.length:=by omega
 obtain ⟨lb,lo,rfl,c0⟩:=int_at HLI.out (getD_at hl0)
 have hm0:=hlt _ (List.mem_of_getElem? (getD_at hl0))
 have n0:=later c0
 rw [Nat.add_zero] at n0
 have hl0i:(0:Int) < (l.length:Int):=by omega
 obtain ⟨lb1,lo1,he1,c1⟩:=int_at HLI.out (getD_at hl1)
 cases he1
 have hm1:=hlt _ (List.mem_of_getElem? (getD_at hl1))
 have n1:=later c1
 have hl1i:(1:Int) < (l.length:Int):=by omega
 have HI:=hid (fun wx (h:Aft W wx)=>is_calls p (l.getD 0 0) 1 _ wx (HP.out.below h.below) hm0)
 have HJ:=hid (fun wx (h:Aft W wx)=>is_calls p (l.getD 1 0) 1 _ wx (HP.out.below h.below) hm1)
 have HK:=hid (fun wx (h:Aft W wx)=>is_calls p (xty) 1 _ wx (HP.out.below h.below) hty)
 clear hfW HLI HP hlt c0 c1 hm0 hm1 hty
 generalize isK p.types (l.getD 0 0) 1=b1 at *
 generalize isK p.types (l.getD 1 0) 1=b2 at *
 generalize isK p.types xty 1=b3 at *
 generalize l.getD 0 0=u0 at *
 generalize l.getD 1 0=u1 at *
 generalize typedB p ⟨4,xty,xa1,xb1,xn1,xar,xfr⟩ l=ans at *
 generalize p.types.length=q1 at *
 generalize p.funcs.length=q2 at *
 generalize l.length=q3 at *
 go_enter Tryz.func128,Tryz.ntmps128
 go_upto_region 1 with fail
 rw [← HW1.out,← HW.out]
 clear HW1 HW
 go_upto_region 15 with fail
 cases b1 with
 | false =>
  refine wp_region_noPanic ?_
  refine wp_region_Z (S:=(fun w'=>Aft W w')) (Z:=[]) (by kernel_rfl) ?_ (fun hHeld=>?_)
  ·(try dsimp only)
   (exact h0d)
  refine zT 0 rfl ?_
  refine zP 1 rfl ?_
  refine zP 2 rfl ?_
  refine zT 3 rfl ?_
  refine zC 4 rfl (fun K hK=>?_)
  go_simp
  (with_reducible refine (HI.out _ h0d).mono ?_)
  rintro e w2 ⟨rfl,hb2⟩
  refine hK.out _ _ ?_ (fun hHeld=>?_)
  ·(try dsimp only)
   (exact (h0d.go hb2))
  clear hK K
  refine zP 5 rfl ?_
  refine zU 6 rfl ?_
  refine zU 7 rfl ?_
  refine zU 8 rfl ?_
  refine zU 9 rfl ?_
  refine zU 10 rfl ?_
  refine zC 11 rfl (fun K hK=>?_)
  go_simp
  refine hK.out _ _ ?_ (fun hHeld=>?_)
  ·(try dsimp only)
   (exact (h0d.go hb2))
  clear hK K
  refine zP 12 rfl ?_
  refine zU 13 rfl ?_
  refine zU 14 rfl ?_
  refine zU 15 rfl ?_
  refine zU 16 rfl ?_
  refine zC 17 rfl (fun K hK=>?_)
  go_simp
  refine hK.out _ _ ?_ (fun hHeld=>?_)
  ·(try dsimp only)
   (exact (h0d.go hb2))
  clear hK K
  refine zT 18 rfl ?_
  try simp only [Act.put,List.setIfInBounds_toArray,List.set_cons_zero,List.set_cons_succ]
  refine wpAnyZ_done (by kernel_rfl) ?_ _
  refine NoPanic.normal ?_
  (try simp only [Exit.then])
  go_wp2
  go_ret
  exact ⟨by rw [HM.out];first | done | rfl,(h0d.go hb2).out HBW.out⟩
 | true =>
 cases b2 with
 | false =>
  refine wp_region_noPanic ?_
  refine wp_region_Z (S:=(fun w'=>Aft W w')) (Z:=[]) (by kernel_rfl) ?_ (fun hHeld=>?_)
  ·(try dsimp only)
   (exact h0d)
  refine zT 0 rfl ?_
  refine zP 1 rfl ?_
  refine zP 2 rfl ?_
  refine zT 3 rfl ?_
  refine zC 4 rfl (fun K hK=>?_)
  go_simp
  (with_reducible refine (HI.out _ h0d).mono ?_)
  rintro e w2 ⟨rfl,hb2⟩
  refine hK.out _ _ ?_ (fun hHeld=>?_)
  ·(try dsimp only)
   (exact (h0d.go hb2))
  clear hK K
  refine zP 5 rfl ?_
  refine zT 6 rfl ?_
  refine zP 7 rfl ?_
  refine zP 8 rfl ?_
  refine zT 9 rfl ?_
  refine zC 10 rfl (fun K hK=>?_)
  go_simp
  (with_reducible refine (HJ.out _ (h0d.go hb2)).mono ?_)
  rintro e w3 ⟨rfl,hb3⟩
  refine hK.out _ _ ?_ (fun hHeld=>?_)
  ·(try dsimp only)
   (exact ((h0d.go hb2).go hb3))
  clear hK K
  refine zC 11 rfl (fun K hK=>?_)
  go_simp
  refine hK.out _ _ ?_ (fun hHeld=>?_)
  ·(try dsimp only)
   (exact ((h0d.go hb2).go hb3))
  clear hK K
  refine zP 12 rfl ?_
  refine zU 13 rfl ?_
  refine zU 14 rfl ?_
  refine zU 15 rfl ?_
  refine zU 16 rfl ?_
  refine zC 17 rfl (fun K hK=>?_)
  go_simp
  refine hK.out _ _ ?_ (fun hHeld=>?_)
  ·(try dsimp only)
   (exact ((h0d.go hb2).go hb3))
  clear hK K
  refine zT 18 rfl ?_
  try simp only [Act.put,List.setIfInBounds_toArray,List.set_cons_zero,List.set_cons_succ]
  refine wpAnyZ_done (by kernel_rfl) ?_ _
  refine NoPanic.normal ?_
  (try simp only [Exit.then])
  go_wp2
  go_ret
  exact ⟨by rw [HM.out];first | done | rfl,((h0d.go hb2).go hb3).out HBW.out⟩
 | true =>
  refine wp_region_noPanic ?_
  refine wp_region_Z (S:=(fun w'=>Aft W w')) (Z:=[]) (by kernel_rfl) ?_ (fun hHeld=>?_)
  ·(try dsimp only)
   (exact h0d)
  refine zT 0 rfl ?_
  refine zP 1 rfl ?_
  refine zP 2 rfl ?_
  refine zT 3 rfl ?_
  refine zC 4 rfl (fun K hK=>?_)
  go_simp
  (with_reducible refine (HI.out _ h0d).mono ?_)
  rintro e w2 ⟨rfl,hb2⟩
  refine hK.out _ _ ?_ (fun hHeld=>?_)
  ·(try dsimp only)
   (exact (h0d.go hb2))
  clear hK K
  refine zP 5 rfl ?_
  refine zT 6 rfl ?_
  refine zP 7 rfl ?_
  refine zP 8 rfl ?_
  refine zT 9 rfl ?_
  refine zC 10 rfl (fun K hK=>?_)
  go_simp
  (with_reducible refine (HJ.out _ (h0d.go hb2)).mono ?_)
  rintro e w3 ⟨rfl,hb3⟩
  refine hK.out _ _ ?_ (fun hHeld=>?_)
  ·(try dsimp only)
   (exact ((h0d.go hb2).go hb3))
  clear hK K
  refine zC 11 rfl (fun K hK=>?_)
  go_simp
  refine hK.out _ _ ?_ (fun hHeld=>?_)
  ·(try dsimp only)
   (exact ((h0d.go hb2).go hb3))
  clear hK K
  refine zP 12 rfl ?_
  refine zT 13 rfl ?_
  refine zP 14 rfl ?_
  refine zT 15 rfl ?_
  refine zC 16 rfl (fun K hK=>?_)
  go_simp
  (with_reducible refine (HK.out _ ((h0d.go hb2).go hb3)).mono ?_)
  rintro e w4 ⟨rfl,hb4⟩
  refine hK.out _ _ ?_ (fun hHeld=>?_)
  ·(try dsimp only)
   (exact (((h0d.go hb2).go hb3).go hb4))
  clear hK K
  refine zC 17 rfl (fun K hK=>?_)
  go_simp
  refine hK.out _ _ ?_ (fun hHeld=>?_)
  ·(try dsimp only)
   (exact (((h0d.go hb2).go hb3).go hb4))
  clear hK K
  refine zT 18 rfl ?_
  try simp only [Act.put,List.setIfInBounds_toArray,List.set_cons_zero,List.set_cons_succ]
  refine wpAnyZ_done (by kernel_rfl) ?_ _
  refine NoPanic.normal ?_
  (try simp only [Exit.then])
  go_wp2
  go_ret
  exact ⟨by rw [HM.out];first | done | rfl,(((h0d.go hb2).go hb3).go hb4).out HBW.out⟩

theorem typed5_of (p:Px) (xty xa1 xb1 xn1:Int) (xar xfr:List Int) (aa:Option Addr) (an ac:Nat) (ra:Option Addr) (rn rc:Nat) (l:List Int) (v vl:Value) (w:World) (hp:PrAt w v p) (hl:IntsAt w vl l) (hl1:1 < l.length) (hlt:∀ n∈l,n < p.types.length) (hty:xty < p.types.length) :
  Calls Tryz.prog 128 #[v,.agg #[.int .u8 5,.int .i64 xty,.int .i64 xa1,.int .i64 xb1,.int .i64 xn1,.slice aa an ac,.slice ra rn rc],vl] w (BoolR (typedB p ⟨5,xty,xa1,xb1,xn1,xar,xfr⟩ l) w):=by
 have hp0:=hp
 obtain ⟨vt,vf0,rfl,ht,hf⟩:=hp
 obtain ⟨W1,hW1⟩:∃ W1,W1=w.alloc (.cells #[vt,vf0] 27):=⟨_,rfl⟩
 obtain ⟨W,hW⟩:∃ W,W=W1.alloc (.cells #[.int .u8 5,.int .i64 xty,.int .i64 xa1,.int .i64 xb1,.int .i64 xn1,.slice aa an ac,.slice ra rn rc] 31):=⟨_,rfl⟩
 have hb1:Below w.heap.size w W1:=by rw [hW1];exact alloc_below _ _
 have hs1:W1.heap.size=w.heap.size+1:=by rw [hW1];simp
 have hb2:Below W1.heap.size W1 W:=by rw [hW];exact alloc_below _ _
 have k0:W1.heap[w.heap.size]?=some (.cells #[vt,vf0] 27 (0,0)):=by rw [hW1];exact alloc_new _ _
 have k1:W.heap[W1.heap.size]?=some (.cells #[.int .u8 5,.int .i64 xty,.int .i64 xa1,.int .i64 xb1,.int .i64 xn1,.slice aa an ac,.slice ra rn rc] 31 (0,0)):=by rw [hW];exact TyD.alloc_new _ _
 have k2:W.heap[w.heap.size]?=some (.cells #[vt,vf0] 27 (0,0)):=(hb2.block _ (Array.getElem?_eq_some_iff.1 k0).1).trans k0
 have hbW:Below w.heap.size w W:=hb1.trans (hb2.mono hb1.size)
 have HP:=hid (hp0.below hbW)
 have HLI:=hid (hl.below hbW)
 have hfW:=hf.below fnStays hbW
 obtain ⟨ta,tc,rfl⟩:=ht.slice
 obtain ⟨fa,fc,rfl,_⟩:=hf.slice
 obtain ⟨la,lc,rfl,_⟩:=ints_slice hl
 rw [hs1] at k1
 have l0:∀ w',Aft W w'→w'.cell? ⟨w.heap.size,0,none⟩=some (.slice ta p.types.length tc):=later_cells k2 0 _ rfl
 have l1:∀ w',Aft W w'→w'.cell? ⟨w.heap.size,1,none⟩=some (.slice fa p.funcs.length fc):=later_cells k2 1 _ rfl
 have m0:∀ w',Aft W w'→w'.cell? ⟨w.heap.size+1,0,none⟩=some (.int .u8 5):=later_cells k1 0 _ rfl
 have m1:∀ w',Aft W w'→w'.cell? ⟨w.heap.size+1,1,none⟩=some (.int .i64 xty):=later_cells k1 1 _ rfl
 have m2:∀ w',Aft W w'→w'.cell? ⟨w.heap.size+1,2,none⟩=some (.int .i64 xa1):=later_cells k1 2 _ rfl
 have m3:∀ w',Aft W w'→w'.cell? ⟨w.heap.size+1,3,none⟩=some (.int .i64 xb1):=later_cells k1 3 _ rfl
 have m4:∀ w',Aft W w'→w'.cell? ⟨w.heap.size+1,4,none⟩=some (.int .i64 xn1):=later_cells k1 4 _ rfl
 have m5:∀ w',Aft W w'→w'.cell? ⟨w.heap.size+1,5,none⟩=some (.slice aa an ac):=later_cells k1 5 _ rfl
 have m6:∀ w',Aft W w'→w'.cell? ⟨w.heap.size+1,6,none⟩=some (.slice ra rn rc):=later_cells k1 6 _ rfl
 have HBW:=hid hbW
 have HW1:=hid hW1
 have HW:=hid hW
 have h0:=Aft.refl W
 have h0d:=h0.drew
 have HM:Hid (typedB p ⟨5,xty,xa1,xb1,xn1,xar,xfr⟩ l=(isK p.types (l.getD 0 0) 1 && (isK p.types (l.getD 1 0) 1 && isK p.types xty 1))):=by show _=_;first | rfl | simp [typedB]
 clear hp0 ht hf hl hW1 hW hb1 hb2 hs1 k0 k1 k2 hbW
 have hl0:0 < l.length:=by omega
 obtain ⟨lb,lo,rfl,c0⟩:=int_at HLI.out (getD_at hl0)
 have hm0:=hlt _ (List.mem_of_getElem? (getD_at hl0))
 have n0:=later c0
 rw [Nat.add_zero] at n0
 have hl0i:(0:Int) < (l.length:Int):=by omega
 obtain ⟨lb1,lo1,he1,c1⟩:=int_at HLI.out (getD_at hl1)
 cases he1
 have hm1:=hlt _ (List.mem_of_getElem? (getD_at hl1))
 have n1:=later c1
 have hl1i:(1:Int) < (l.length:Int):=by omega
 have HI:=hid (fun wx (h:Aft W wx)=>is_calls p (l.getD 0 0) 1 _ wx (HP.out.below h.below) hm0)
 have HJ:=hid (fun wx (h:Aft W wx)=>is_calls p (l.getD 1 0) 1 _ wx (HP.out.below h.below) hm1)
 have HK:=hid (fun wx (h:Aft W wx)=>is_calls p (xty) 1 _ wx (HP.out.below h.below) hty)
 clear hfW HLI HP hlt c0 c1 hm0 hm1 hty
 generalize isK p.types (l.getD 0 0) 1=b1 at *
 generalize isK p.types (l.getD 1 0) 1=b2 at *
 generalize isK p.types xty 1=b3 at *
 generalize l.getD 0 0=u0 at *
 generalize l.getD 1 0=u1 at *
 generalize typedB p ⟨5,xty,xa1,xb1,xn1,xar,xfr⟩ l=ans at *
 generalize p.types.length=q1 at *
 generalize p.funcs.length=q2 at *
 generalize l.length=q3 at *
 go_enter Tryz.func128,Tryz.ntmps128
 go_upto_region 1 with fail
 rw [← HW1.out,← HW.out]
 clear HW1 HW
 go_upto_region 15 with fail
 cases b1 with
 | false =>
  refine wp_region_noPanic ?_
  refine wp_region_Z (S:=(fun w'=>Aft W w')) (Z:=[]) (by kernel_rfl) ?_ (fun hHeld=>?_)
  ·(try dsimp only)
   (exact h0d)
  refine zT 0 rfl ?_
  refine zP 1 rfl ?_
  refine zP 2 rfl ?_
  refine zT 3 rfl ?_
  refine zC 4 rfl (fun K hK=>?_)
  go_simp
  (with_reducible refine (HI.out _ h0d).mono ?_)
  rintro e w2 ⟨rfl,hb2⟩
  refine hK.out _ _ ?_ (fun hHeld=>?_)
  ·(try dsimp only)
   (exact (h0d.go hb2))
  clear hK K
  refine zP 5 rfl ?_
  refine zU 6 rfl ?_
  refine zU 7 rfl ?_
  refine zU 8 rfl ?_
  refine zU 9 rfl ?_
  refine zU 10 rfl ?_
  refine zC 11 rfl (fun K hK=>?_)
  go_simp
  refine hK.out _ _ ?_ (fun hHeld=>?_)
  ·(try dsimp only)
   (exact (h0d.go hb2))
  clear hK K
  refine zP 12 rfl ?_
  refine zU 13 rfl ?_
  refine zU 14 rfl ?_
  refine zU 15 rfl ?_
  refine zU 16 rfl ?_
  refine zC 17 rfl (fun K hK=>?_)
  go_simp
  refine hK.out _ _ ?_ (fun hHeld=>?_)
  ·(try dsimp only)
   (exact (h0d.go hb2))
  clear hK K
  refine zT 18 rfl ?_
  try simp only [Act.put,List.setIfInBounds_toArray,List.set_cons_zero,List.set_cons_succ]
  refine wpAnyZ_done (by kernel_rfl) ?_ _
  refine NoPanic.normal ?_
  (try simp only [Exit.then])
  go_wp2
  go_ret
  exact ⟨by rw [HM.out];first | done | rfl,(h0d.go hb2).out HBW.out⟩
 | true =>
 cases b2 with
 | false =>
  refine wp_region_noPanic ?_
  refine wp_region_Z (S:=(fun w'=>Aft W w')) (Z:=[]) (by kernel_rfl) ?_ (fun hHeld=>?_)
  ·(try dsimp only)
   (exact h0d)
  refine zT 0 rfl ?_
  refine zP 1 rfl ?_
  refine zP 2 rfl ?_
  refine zT 3 rfl ?_
  refine zC 4 rfl (fun K hK=>?_)
  go_simp
  (with_reducible refine (HI.out _ h0d).mono ?_)
  rintro e w2 ⟨rfl,hb2⟩
  refine hK.out _ _ ?_ (fun hHeld=>?_)
  ·(try dsimp only)
   (exact (h0d.go hb2))
  clear hK K
  refine zP 5 rfl ?_
  refine zT 6 rfl ?_
  refine zP 7 rfl ?_
  refine zP 8 rfl ?_
  refine zT 9 rfl ?_
  refine zC 10 rfl (fun K hK=>?_)
  go_simp
  (with_reducible refine (HJ.out _ (h0d.go hb2)).mono ?_)
  rintro e w3 ⟨rfl,hb3⟩
  refine hK.out _ _ ?_ (fun hHeld=>?_)
  ·(try dsimp only)
   (exact ((h0d.go hb2).go hb3))
  clear hK K
  refine zC 11 rfl (fun K hK=>?_)
  go_simp
  refine hK.out _ _ ?_ (fun hHeld=>?_)
  ·(try dsimp only)
   (exact ((h0d.go hb2).go hb3))
  clear hK K
  refine zP 12 rfl ?_
  refine zU 13 rfl ?_
  refine zU 14 rfl ?_
  refine zU 15 rfl ?_
  refine zU 16 rfl ?_
  refine zC 17 rfl (fun K hK=>?_)
  go_simp
  refine hK.out _ _ ?_ (fun hHeld=>?_)
  ·(try dsimp only)
   (exact ((h0d.go hb2).go hb3))
  clear hK K
  refine zT 18 rfl ?_
  try simp only [Act.put,List.setIfInBounds_toArray,List.set_cons_zero,List.set_cons_succ]
  refine wpAnyZ_done (by kernel_rfl) ?_ _
  refine NoPanic.normal ?_
  (try simp only [Exit.then])
  go_wp2
  go_ret
  exact ⟨by rw [HM.out];first | done | rfl,((h0d.go hb2).go hb3).out HBW.out⟩
 | true =>
  refine wp_region_noPanic ?_
  refine wp_region_Z (S:=(fun w'=>Aft W w')) (Z:=[]) (by kernel_rfl) ?_ (fun hHeld=>?_)
  ·(try dsimp only)
   (exact h0d)
  refine zT 0 rfl ?_
  refine zP 1 rfl ?_
  refine zP 2 rfl ?_
  refine zT 3 rfl ?_
  refine zC 4 rfl (fun K hK=>?_)
  go_simp
  (with_reducible refine (HI.out _ h0d).mono ?_)
  rintro e w2 ⟨rfl,hb2⟩
  refine hK.out _ _ ?_ (fun hHeld=>?_)
  ·(try dsimp only)
   (exact (h0d.go hb2))
  clear hK K
  refine zP 5 rfl ?_
  refine zT 6 rfl ?_
  refine zP 7 rfl ?_
  refine zP 8 rfl ?_
  refine zT 9 rfl ?_
  refine zC 10 rfl (fun K hK=>?_)
  go_simp
  (with_reducible refine (HJ.out _ (h0d.go hb2)).mono ?_)
  rintro e w3 ⟨rfl,hb3⟩
  refine hK.out _ _ ?_ (fun hHeld=>?_)
  ·(try dsimp only)
   (exact ((h0d.go hb2).go hb3))
  clear hK K
  refine zC 11 rfl (fun K hK=>?_)
  go_simp
  refine hK.out _ _ ?_ (fun hHeld=>?_)
  ·(try dsimp only)
   (exact ((h0d.go hb2).go hb3))
  clear hK K
  refine zP 12 rfl ?_
  refine zT 13 rfl ?_
  refine zP 14 rfl ?_
  refine zT 15 rfl ?_
  refine zC 16 rfl (fun K hK=>?_)
  go_simp
  (with_reducible refine (HK.out _ ((h0d.go hb2).go hb3)).mono ?_)
  rintro e w4 ⟨rfl,hb4⟩
  refine hK.out _ _ ?_ (fun hHeld=>?_)
  ·(try dsimp only)
   (exact (((h0d.go hb2).go hb3).go hb4))
  clear hK K
  refine zC 17 rfl (fun K hK=>?_)
  go_simp
  refine hK.out _ _ ?_ (fun hHeld=>?_)
  ·(try dsimp only)
   (exact (((h0d.go hb2).go hb3).go hb4))
  clear hK K
  refine zT 18 rfl ?_
  try simp only [Act.put,List.setIfInBounds_toArray,List.set_cons_zero,List.set_cons_succ]
  refine wpAnyZ_done (by kernel_rfl) ?_ _
  refine NoPanic.normal ?_
  (try simp only [Exit.then])
  go_wp2
  go_ret
  exact ⟨by rw [HM.out];first | done | rfl,(((h0d.go hb2).go hb3).go hb4).out HBW.out⟩

theorem typed6_of (p:Px) (xty xa1 xb1 xn1:Int) (xar xfr:List Int) (aa:Option Addr) (an ac:Nat) (ra:Option Addr) (rn rc:Nat) (l:List Int) (v vl:Value) (w:World) (hp:PrAt w v p) (hl:IntsAt w vl l) (hl1:1 < l.length) (hlt:∀ n∈l,n < p.types.length) (hty:xty < p.types.length) :
  Calls Tryz.prog 128 #[v,.agg #[.int .u8 6,.int .i64 xty,.int .i64 xa1,.int .i64 xb1,.int .i64 xn1,.slice aa an ac,.slice ra rn rc],vl] w (BoolR (typedB p ⟨6,xty,xa1,xb1,xn1,xar,xfr⟩ l) w):=by
 have hp0:=hp
 obtain ⟨vt,vf0,rfl,ht,hf⟩:=hp
 obtain ⟨W1,hW1⟩:∃ W1,W1=w.alloc (.cells #[vt,vf0] 27):=⟨_,rfl⟩
 obtain ⟨W,hW⟩:∃ W,W=W1.alloc (.cells #[.int .u8 6,.int .i64 xty,.int .i64 xa1,.int .i64 xb1,.int .i64 xn1,.slice aa an ac,.slice ra rn rc] 31):=⟨_,rfl⟩
 have hb1:Below w.heap.size w W1:=by rw [hW1];exact alloc_below _ _
 have hs1:W1.heap.size=w.heap.size+1:=by rw [hW1];simp
 have hb2:Below W1.heap.size W1 W:=by rw [hW];exact alloc_below _ _
 have k0:W1.heap[w.heap.size]?=some (.cells #[vt,vf0] 27 (0,0)):=by rw [hW1];exact alloc_new _ _
 have k1:W.heap[W1.heap.size]?=some (.cells #[.int .u8 6,.int .i64 xty,.int .i64 xa1,.int .i64 xb1,.int .i64 xn1,.slice aa an ac,.slice ra rn rc] 31 (0,0)):=by rw [hW];exact TyD.alloc_new _ _
 have k2:W.heap[w.heap.size]?=some (.cells #[vt,vf0] 27 (0,0)):=(hb2.block _ (Array.getElem?_eq_some_iff.1 k0).1).trans k0
 have hbW:Below w.heap.size w W:=hb1.trans (hb2.mono hb1.size)
 have HP:=hid (hp0.below hbW)
 have HLI:=hid (hl.below hbW)
 have hfW:=hf.below fnStays hbW
 obtain ⟨ta,tc,rfl⟩:=ht.slice
 obtain ⟨fa,fc,rfl,_⟩:=hf.slice
 obtain ⟨la,lc,rfl,_⟩:=ints_slice hl
 rw [hs1] at k1
 have l0:∀ w',Aft W w'→w'.cell? ⟨w.heap.size,0,none⟩=some (.slice ta p.types.length tc):=later_cells k2 0 _ rfl
 have l1:∀ w',Aft W w'→w'.cell? ⟨w.heap.size,1,none⟩=some (.slice fa p.funcs.length fc):=later_cells k2 1 _ rfl
 have m0:∀ w',Aft W w'→w'.cell? ⟨w.heap.size+1,0,none⟩=some (.int .u8 6):=later_cells k1 0 _ rfl
 have m1:∀ w',Aft W w'→w'.cell? ⟨w.heap.size+1,1,none⟩=some (.int .i64 xty):=later_cells k1 1 _ rfl
 have m2:∀ w',Aft W w'→w'.cell? ⟨w.heap.size+1,2,none⟩=some (.int .i64 xa1):=later_cells k1 2 _ rfl
 have m3:∀ w',Aft W w'→w'.cell? ⟨w.heap.size+1,3,none⟩=some (.int .i64 xb1):=later_cells k1 3 _ rfl
 have m4:∀ w',Aft W w'→w'.cell? ⟨w.heap.size+1,4,none⟩=some (.int .i64 xn1):=later_cells k1 4 _ rfl
 have m5:∀ w',Aft W w'→w'.cell? ⟨w.heap.size+1,5,none⟩=some (.slice aa an ac):=later_cells k1 5 _ rfl
 have m6:∀ w',Aft W w'→w'.cell? ⟨w.heap.size+1,6,none⟩=some (.slice ra rn rc):=later_cells k1 6 _ rfl
 have HBW:=hid hbW
 have HW1:=hid hW1
 have HW:=hid hW
 have h0:=Aft.refl W
 have h0d:=h0.drew
 have HM:Hid (typedB p ⟨6,xty,xa1,xb1,xn1,xar,xfr⟩ l=(isK p.types (l.getD 0 0) 1 && (isK p.types (l.getD 1 0) 1 && isK p.types xty 1))):=by show _=_;first | rfl | simp [typedB]
 clear hp0 ht hf hl hW1 hW hb1 hb2 hs1 k0 k1 k2 hbW
 have hl0:0 < l.length:=by omega
 obtain ⟨lb,lo,rfl,c0⟩:=int_at HLI.out (getD_at hl0)
 have hm0:=hlt _ (List.mem_of_getElem? (getD_at hl0))
 have n0:=later c0
 rw [Nat.add_zero] at n0
 have hl0i:(0:Int) < (l.length:Int):=by omega
 obtain ⟨lb1,lo1,he1,c1⟩:=int_at HLI.out (getD_at hl1)
 cases he1
 have hm1:=hlt _ (List.mem_of_getElem? (getD_at hl1))
 have n1:=later c1
 have hl1i:(1:Int) < (l.length:Int):=by omega
 have HI:=hid (fun wx (h:Aft W wx)=>is_calls p (l.getD 0 0) 1 _ wx (HP.out.below h.below) hm0)
 have HJ:=hid (fun wx (h:Aft W wx)=>is_calls p (l.getD 1 0) 1 _ wx (HP.out.below h.below) hm1)
 have HK:=hid (fun wx (h:Aft W wx)=>is_calls p (xty) 1 _ wx (HP.out.below h.below) hty)
 clear hfW HLI HP hlt c0 c1 hm0 hm1 hty
 generalize isK p.types (l.getD 0 0) 1=b1 at *
 generalize isK p.types (l.getD 1 0) 1=b2 at *
 generalize isK p.types xty 1=b3 at *
 generalize l.getD 0 0=u0 at *
 generalize l.getD 1 0=u1 at *
 generalize typedB p ⟨6,xty,xa1,xb1,xn1,xar,xfr⟩ l=ans at *
 generalize p.types.length=q1 at *
 generalize p.funcs.length=q2 at *
 generalize l.length=q3 at *
 go_enter Tryz.func128,Tryz.ntmps128
 go_upto_region 1 with fail
 rw [← HW1.out,← HW.out]
 clear HW1 HW
 go_upto_region 15 with fail
 cases b1 with
 | false =>
  refine wp_region_noPanic ?_
  refine wp_region_Z (S:=(fun w'=>Aft W w')) (Z:=[]) (by kernel_rfl) ?_ (fun hHeld=>?_)
  ·(try dsimp only)
   (exact h0d)
  refine zT 0 rfl ?_
  refine zP 1 rfl ?_
  refine zP 2 rfl ?_
  refine zT 3 rfl ?_
  refine zC 4 rfl (fun K hK=>?_)
  go_simp
  (with_reducible refine (HI.out _ h0d).mono ?_)
  rintro e w2 ⟨rfl,hb2⟩
  refine hK.out _ _ ?_ (fun hHeld=>?_)
  ·(try dsimp only)
   (exact (h0d.go hb2))
  clear hK K
  refine zP 5 rfl ?_
  refine zU 6 rfl ?_
  refine zU 7 rfl ?_
  refine zU 8 rfl ?_
  refine zU 9 rfl ?_
  refine zU 10 rfl ?_
  refine zC 11 rfl (fun K hK=>?_)
  go_simp
  refine hK.out _ _ ?_ (fun hHeld=>?_)
  ·(try dsimp only)
   (exact (h0d.go hb2))
  clear hK K
  refine zP 12 rfl ?_
  refine zU 13 rfl ?_
  refine zU 14 rfl ?_
  refine zU 15 rfl ?_
  refine zU 16 rfl ?_
  refine zC 17 rfl (fun K hK=>?_)
  go_simp
  refine hK.out _ _ ?_ (fun hHeld=>?_)
  ·(try dsimp only)
   (exact (h0d.go hb2))
  clear hK K
  refine zT 18 rfl ?_
  try simp only [Act.put,List.setIfInBounds_toArray,List.set_cons_zero,List.set_cons_succ]
  refine wpAnyZ_done (by kernel_rfl) ?_ _
  refine NoPanic.normal ?_
  (try simp only [Exit.then])
  go_wp2
  go_ret
  exact ⟨by rw [HM.out];first | done | rfl,(h0d.go hb2).out HBW.out⟩
 | true =>
 cases b2 with
 | false =>
  refine wp_region_noPanic ?_
  refine wp_region_Z (S:=(fun w'=>Aft W w')) (Z:=[]) (by kernel_rfl) ?_ (fun hHeld=>?_)
  ·(try dsimp only)
   (exact h0d)
  refine zT 0 rfl ?_
  refine zP 1 rfl ?_
  refine zP 2 rfl ?_
  refine zT 3 rfl ?_
  refine zC 4 rfl (fun K hK=>?_)
  go_simp
  (with_reducible refine (HI.out _ h0d).mono ?_)
  rintro e w2 ⟨rfl,hb2⟩
  refine hK.out _ _ ?_ (fun hHeld=>?_)
  ·(try dsimp only)
   (exact (h0d.go hb2))
  clear hK K
  refine zP 5 rfl ?_
  refine zT 6 rfl ?_
  refine zP 7 rfl ?_
  refine zP 8 rfl ?_
  refine zT 9 rfl ?_
  refine zC 10 rfl (fun K hK=>?_)
  go_simp
  (with_reducible refine (HJ.out _ (h0d.go hb2)).mono ?_)
  rintro e w3 ⟨rfl,hb3⟩
  refine hK.out _ _ ?_ (fun hHeld=>?_)
  ·(try dsimp only)
   (exact ((h0d.go hb2).go hb3))
  clear hK K
  refine zC 11 rfl (fun K hK=>?_)
  go_simp
  refine hK.out _ _ ?_ (fun hHeld=>?_)
  ·(try dsimp only)
   (exact ((h0d.go hb2).go hb3))
  clear hK K
  refine zP 12 rfl ?_
  refine zU 13 rfl ?_
  refine zU 14 rfl ?_
  refine zU 15 rfl ?_
  refine zU 16 rfl ?_
  refine zC 17 rfl (fun K hK=>?_)
  go_simp
  refine hK.out _ _ ?_ (fun hHeld=>?_)
  ·(try dsimp only)
   (exact ((h0d.go hb2).go hb3))
  clear hK K
  refine zT 18 rfl ?_
  try simp only [Act.put,List.setIfInBounds_toArray,List.set_cons_zero,List.set_cons_succ]
  refine wpAnyZ_done (by kernel_rfl) ?_ _
  refine NoPanic.normal ?_
  (try simp only [Exit.then])
  go_wp2
  go_ret
  exact ⟨by rw [HM.out];first | done | rfl,((h0d.go hb2).go hb3).out HBW.out⟩
 | true =>
  refine wp_region_noPanic ?_
  refine wp_region_Z (S:=(fun w'=>Aft W w')) (Z:=[]) (by kernel_rfl) ?_ (fun hHeld=>?_)
  ·(try dsimp only)
   (exact h0d)
  refine zT 0 rfl ?_
  refine zP 1 rfl ?_
  refine zP 2 rfl ?_
  refine zT 3 rfl ?_
  refine zC 4 rfl (fun K hK=>?_)
  go_simp
  (with_reducible refine (HI.out _ h0d).mono ?_)
  rintro e w2 ⟨rfl,hb2⟩
  refine hK.out _ _ ?_ (fun hHeld=>?_)
  ·(try dsimp only)
   (exact (h0d.go hb2))
  clear hK K
  refine zP 5 rfl ?_
  refine zT 6 rfl ?_
  refine zP 7 rfl ?_
  refine zP 8 rfl ?_
  refine zT 9 rfl ?_
  refine zC 10 rfl (fun K hK=>?_)
  go_simp
  (with_reducible refine (HJ.out _ (h0d.go hb2)).mono ?_)
  rintro e w3 ⟨rfl,hb3⟩
  refine hK.out _ _ ?_ (fun hHeld=>?_)
  ·(try dsimp only)
   (exact ((h0d.go hb2).go hb3))
  clear hK K
  refine zC 11 rfl (fun K hK=>?_)
  go_simp
  refine hK.out _ _ ?_ (fun hHeld=>?_)
  ·(try dsimp only)
   (exact ((h0d.go hb2).go hb3))
  clear hK K
  refine zP 12 rfl ?_
  refine zT 13 rfl ?_
  refine zP 14 rfl ?_
  refine zT 15 rfl ?_
  refine zC 16 rfl (fun K hK=>?_)
  go_simp
  (with_reducible refine (HK.out _ ((h0d.go hb2).go hb3)).mono ?_)
  rintro e w4 ⟨rfl,hb4⟩
  refine hK.out _ _ ?_ (fun hHeld=>?_)
  ·(try dsimp only)
   (exact (((h0d.go hb2).go hb3).go hb4))
  clear hK K
  refine zC 17 rfl (fun K hK=>?_)
  go_simp
  refine hK.out _ _ ?_ (fun hHeld=>?_)
  ·(try dsimp only)
   (exact (((h0d.go hb2).go hb3).go hb4))
  clear hK K
  refine zT 18 rfl ?_
  try simp only [Act.put,List.setIfInBounds_toArray,List.set_cons_zero,List.set_cons_succ]
  refine wpAnyZ_done (by kernel_rfl) ?_ _
  refine NoPanic.normal ?_
  (try simp only [Exit.then])
  go_wp2
  go_ret
  exact ⟨by rw [HM.out];first | done | rfl,(((h0d.go hb2).go hb3).go hb4).out HBW.out⟩

theorem typed7_of (p:Px) (xty xa1 xb1 xn1:Int) (xar xfr:List Int) (aa:Option Addr) (an ac:Nat) (ra:Option Addr) (rn rc:Nat) (l:List Int) (v vl:Value) (w:World) (hp:PrAt w v p) (hl:IntsAt w vl l) (hl1:1 < l.length) (hlt:∀ n∈l,n < p.types.length) (hty:xty < p.types.length) :
  Calls Tryz.prog 128 #[v,.agg #[.int .u8 7,.int .i64 xty,.int .i64 xa1,.int .i64 xb1,.int .i64 xn1,.slice aa an ac,.slice ra rn rc],vl] w (BoolR (typedB p ⟨7,xty,xa1,xb1,xn1,xar,xfr⟩ l) w):=by
 have hp0:=hp
 obtain ⟨vt,vf0,rfl,ht,hf⟩:=hp
 obtain ⟨W1,hW1⟩:∃ W1,W1=w.alloc (.cells #[vt,vf0] 27):=⟨_,rfl⟩
 obtain ⟨W,hW⟩:∃ W,W=W1.alloc (.cells #[.int .u8 7,.int .i64 xty,.int .i64 xa1,.int .i64 xb1,.int .i64 xn1,.slice aa an ac,.slice ra rn rc] 31):=⟨_,rfl⟩
 have hb1:Below w.heap.size w W1:=by rw [hW1];exact alloc_below _ _
 have hs1:W1.heap.size=w.heap.size+1:=by rw [hW1];simp
 have hb2:Below W1.heap.size W1 W:=by rw [hW];exact alloc_below _ _
 have k0:W1.heap[w.heap.size]?=some (.cells #[vt,vf0] 27 (0,0)):=by rw [hW1];exact alloc_new _ _
 have k1:W.heap[W1.heap.size]?=some (.cells #[.int .u8 7,.int .i64 xty,.int .i64 xa1,.int .i64 xb1,.int .i64 xn1,.slice aa an ac,.slice ra rn rc] 31 (0,0)):=by rw [hW];exact TyD.alloc_new _ _
 have k2:W.heap[w.heap.size]?=some (.cells #[vt,vf0] 27 (0,0)):=(hb2.block _ (Array.getElem?_eq_some_iff.1 k0).1).trans k0
 have hbW:Below w.heap.size w W:=hb1.trans (hb2.mono hb1.size)
 have HP:=hid (hp0.below hbW)
 have HLI:=hid (hl.below hbW)
 have hfW:=hf.below fnStays hbW
 obtain ⟨ta,tc,rfl⟩:=ht.slice
 obtain ⟨fa,fc,rfl,_⟩:=hf.slice
 obtain ⟨la,lc,rfl,_⟩:=ints_slice hl
 rw [hs1] at k1
 have l0:∀ w',Aft W w'→w'.cell? ⟨w.heap.size,0,none⟩=some (.slice ta p.types.length tc):=later_cells k2 0 _ rfl
 have l1:∀ w',Aft W w'→w'.cell? ⟨w.heap.size,1,none⟩=some (.slice fa p.funcs.length fc):=later_cells k2 1 _ rfl
 have m0:∀ w',Aft W w'→w'.cell? ⟨w.heap.size+1,0,none⟩=some (.int .u8 7):=later_cells k1 0 _ rfl
 have m1:∀ w',Aft W w'→w'.cell? ⟨w.heap.size+1,1,none⟩=some (.int .i64 xty):=later_cells k1 1 _ rfl
 have m2:∀ w',Aft W w'→w'.cell? ⟨w.heap.size+1,2,none⟩=some (.int .i64 xa1):=later_cells k1 2 _ rfl
 have m3:∀ w',Aft W w'→w'.cell? ⟨w.heap.size+1,3,none⟩=some (.int .i64 xb1):=later_cells k1 3 _ rfl
 have m4:∀ w',Aft W w'→w'.cell? ⟨w.heap.size+1,4,none⟩=some (.int .i64 xn1):=later_cells k1 4 _ rfl
 have m5:∀ w',Aft W w'→w'.cell? ⟨w.heap.size+1,5,none⟩=some (.slice aa an ac):=later_cells k1 5 _ rfl
 have m6:∀ w',Aft W w'→w'.cell? ⟨w.heap.size+1,6,none⟩=some (.slice ra rn rc):=later_cells k1 6 _ rfl
 have HBW:=hid hbW
 have HW1:=hid hW1
 have HW:=hid hW
 have h0:=Aft.refl W
 have h0d:=h0.drew
 have HM:Hid (typedB p ⟨7,xty,xa1,xb1,xn1,xar,xfr⟩ l=(isK p.types (l.getD 0 0) 1 && (isK p.types (l.getD 1 0) 1 && isK p.types xty 1))):=by show _=_;first | rfl | simp [typedB]
 clear hp0 ht hf hl hW1 hW hb1 hb2 hs1 k0 k1 k2 hbW
 have hl0:0 < l.length:=by omega
 obtain ⟨lb,lo,rfl,c0⟩:=int_at HLI.out (getD_at hl0)
 have hm0:=hlt _ (List.mem_of_getElem? (getD_at hl0))
 have n0:=later c0
 rw [Nat.add_zero] at n0
 have hl0i:(0:Int) < (l.length:Int):=by omega
 obtain ⟨lb1,lo1,he1,c1⟩:=int_at HLI.out (getD_at hl1)
 cases he1
 have hm1:=hlt _ (List.mem_of_getElem? (getD_at hl1))
 have n1:=later c1
 have hl1i:(1:Int) < (l.length:Int):=by omega
 have HI:=hid (fun wx (h:Aft W wx)=>is_calls p (l.getD 0 0) 1 _ wx (HP.out.below h.below) hm0)
 have HJ:=hid (fun wx (h:Aft W wx)=>is_calls p (l.getD 1 0) 1 _ wx (HP.out.below h.below) hm1)
 have HK:=hid (fun wx (h:Aft W wx)=>is_calls p (xty) 1 _ wx (HP.out.below h.below) hty)
 clear hfW HLI HP hlt c0 c1 hm0 hm1 hty
 generalize isK p.types (l.getD 0 0) 1=b1 at *
 generalize isK p.types (l.getD 1 0) 1=b2 at *
 generalize isK p.types xty 1=b3 at *
 generalize l.getD 0 0=u0 at *
 generalize l.getD 1 0=u1 at *
 generalize typedB p ⟨7,xty,xa1,xb1,xn1,xar,xfr⟩ l=ans at *
 generalize p.types.length=q1 at *
 generalize p.funcs.length=q2 at *
 generalize l.length=q3 at *
 go_enter Tryz.func128,Tryz.ntmps128
 go_upto_region 1 with fail
 rw [← HW1.out,← HW.out]
 clear HW1 HW
 go_upto_region 15 with fail
 cases b1 with
 | false =>
  refine wp_region_noPanic ?_
  refine wp_region_Z (S:=(fun w'=>Aft W w')) (Z:=[]) (by kernel_rfl) ?_ (fun hHeld=>?_)
  ·(try dsimp only)
   (exact h0d)
  refine zT 0 rfl ?_
  refine zP 1 rfl ?_
  refine zP 2 rfl ?_
  refine zT 3 rfl ?_
  refine zC 4 rfl (fun K hK=>?_)
  go_simp
  (with_reducible refine (HI.out _ h0d).mono ?_)
  rintro e w2 ⟨rfl,hb2⟩
  refine hK.out _ _ ?_ (fun hHeld=>?_)
  ·(try dsimp only)
   (exact (h0d.go hb2))
  clear hK K
  refine zP 5 rfl ?_
  refine zU 6 rfl ?_
  refine zU 7 rfl ?_
  refine zU 8 rfl ?_
  refine zU 9 rfl ?_
  refine zU 10 rfl ?_
  refine zC 11 rfl (fun K hK=>?_)
  go_simp
  refine hK.out _ _ ?_ (fun hHeld=>?_)
  ·(try dsimp only)
   (exact (h0d.go hb2))
  clear hK K
  refine zP 12 rfl ?_
  refine zU 13 rfl ?_
  refine zU 14 rfl ?_
  refine zU 15 rfl ?_
  refine zU 16 rfl ?_
  refine zC 17 rfl (fun K hK=>?_)
  go_simp
  refine hK.out _ _ ?_ (fun hHeld=>?_)
  ·(try dsimp only)
   (exact (h0d.go hb2))
  clear hK K
  refine zT 18 rfl ?_
  try simp only [Act.put,List.setIfInBounds_toArray,List.set_cons_zero,List.set_cons_succ]
  refine wpAnyZ_done (by kernel_rfl) ?_ _
  refine NoPanic.normal ?_
  (try simp only [Exit.then])
  go_wp2
  go_ret
  exact ⟨by rw [HM.out];first | done | rfl,(h0d.go hb2).out HBW.out⟩
 | true =>
 cases b2 with
 | false =>
  refine wp_region_noPanic ?_
  refine wp_region_Z (S:=(fun w'=>Aft W w')) (Z:=[]) (by kernel_rfl) ?_ (fun hHeld=>?_)
  ·(try dsimp only)
   (exact h0d)
  refine zT 0 rfl ?_
  refine zP 1 rfl ?_
  refine zP 2 rfl ?_
  refine zT 3 rfl ?_
  refine zC 4 rfl (fun K hK=>?_)
  go_simp
  (with_reducible refine (HI.out _ h0d).mono ?_)
  rintro e w2 ⟨rfl,hb2⟩
  refine hK.out _ _ ?_ (fun hHeld=>?_)
  ·(try dsimp only)
   (exact (h0d.go hb2))
  clear hK K
  refine zP 5 rfl ?_
  refine zT 6 rfl ?_
  refine zP 7 rfl ?_
  refine zP 8 rfl ?_
  refine zT 9 rfl ?_
  refine zC 10 rfl (fun K hK=>?_)
  go_simp
  (with_reducible refine (HJ.out _ (h0d.go hb2)).mono ?_)
  rintro e w3 ⟨rfl,hb3⟩
  refine hK.out _ _ ?_ (fun hHeld=>?_)
  ·(try dsimp only)
   (exact ((h0d.go hb2).go hb3))
  clear hK K
  refine zC 11 rfl (fun K hK=>?_)
  go_simp
  refine hK.out _ _ ?_ (fun hHeld=>?_)
  ·(try dsimp only)
   (exact ((h0d.go hb2).go hb3))
  clear hK K
  refine zP 12 rfl ?_
  refine zU 13 rfl ?_
  refine zU 14 rfl ?_
  refine zU 15 rfl ?_
  refine zU 16 rfl ?_
  refine zC 17 rfl (fun K hK=>?_)
  go_simp
  refine hK.out _ _ ?_ (fun hHeld=>?_)
  ·(try dsimp only)
   (exact ((h0d.go hb2).go hb3))
  clear hK K
  refine zT 18 rfl ?_
  try simp only [Act.put,List.setIfInBounds_toArray,List.set_cons_zero,List.set_cons_succ]
  refine wpAnyZ_done (by kernel_rfl) ?_ _
  refine NoPanic.normal ?_
  (try simp only [Exit.then])
  go_wp2
  go_ret
  exact ⟨by rw [HM.out];first | done | rfl,((h0d.go hb2).go hb3).out HBW.out⟩
 | true =>
  refine wp_region_noPanic ?_
  refine wp_region_Z (S:=(fun w'=>Aft W w')) (Z:=[]) (by kernel_rfl) ?_ (fun hHeld=>?_)
  ·(try dsimp only)
   (exact h0d)
  refine zT 0 rfl ?_
  refine zP 1 rfl ?_
  refine zP 2 rfl ?_
  refine zT 3 rfl ?_
  refine zC 4 rfl (fun K hK=>?_)
  go_simp
  (with_reducible refine (HI.out _ h0d).mono ?_)
  rintro e w2 ⟨rfl,hb2⟩
  refine hK.out _ _ ?_ (fun hHeld=>?_)
  ·(try dsimp only)
   (exact (h0d.go hb2))
  clear hK K
  refine zP 5 rfl ?_
  refine zT 6 rfl ?_
  refine zP 7 rfl ?_
  refine zP 8 rfl ?_
  refine zT 9 rfl ?_
  refine zC 10 rfl (fun K hK=>?_)
  go_simp
  (with_reducible refine (HJ.out _ (h0d.go hb2)).mono ?_)
  rintro e w3 ⟨rfl,hb3⟩
  refine hK.out _ _ ?_ (fun hHeld=>?_)
  ·(try dsimp only)
   (exact ((h0d.go hb2).go hb3))
  clear hK K
  refine zC 11 rfl (fun K hK=>?_)
  go_simp
  refine hK.out _ _ ?_ (fun hHeld=>?_)
  ·(try dsimp only)
   (exact ((h0d.go hb2).go hb3))
  clear hK K
  refine zP 12 rfl ?_
  refine zT 13 rfl ?_
  refine zP 14 rfl ?_
  refine zT 15 rfl ?_
  refine zC 16 rfl (fun K hK=>?_)
  go_simp
  (with_reducible refine (HK.out _ ((h0d.go hb2).go hb3)).mono ?_)
  rintro e w4 ⟨rfl,hb4⟩
  refine hK.out _ _ ?_ (fun hHeld=>?_)
  ·(try dsimp only)
   (exact (((h0d.go hb2).go hb3).go hb4))
  clear hK K
  refine zC 17 rfl (fun K hK=>?_)
  go_simp
  refine hK.out _ _ ?_ (fun hHeld=>?_)
  ·(try dsimp only)
   (exact (((h0d.go hb2).go hb3).go hb4))
  clear hK K
  refine zT 18 rfl ?_
  try simp only [Act.put,List.setIfInBounds_toArray,List.set_cons_zero,List.set_cons_succ]
  refine wpAnyZ_done (by kernel_rfl) ?_ _
  refine NoPanic.normal ?_
  (try simp only [Exit.then])
  go_wp2
  go_ret
  exact ⟨by rw [HM.out];first | done | rfl,(((h0d.go hb2).go hb3).go hb4).out HBW.out⟩

theorem typed8_of (p:Px) (xty xa1 xb1 xn1:Int) (xar xfr:List Int) (aa:Option Addr) (an ac:Nat) (ra:Option Addr) (rn rc:Nat) (l:List Int) (v vl:Value) (w:World) (hp:PrAt w v p) (hl:IntsAt w vl l) (hl1:1 < l.length) (hlt:∀ n∈l,n < p.types.length) (hty:xty < p.types.length) :
  Calls Tryz.prog 128 #[v,.agg #[.int .u8 8,.int .i64 xty,.int .i64 xa1,.int .i64 xb1,.int .i64 xn1,.slice aa an ac,.slice ra rn rc],vl] w (BoolR (typedB p ⟨8,xty,xa1,xb1,xn1,xar,xfr⟩ l) w):=by
 have hp0:=hp
 obtain ⟨vt,vf0,rfl,ht,hf⟩:=hp
 obtain ⟨W1,hW1⟩:∃ W1,W1=w.alloc (.cells #[vt,vf0] 27):=⟨_,rfl⟩
 obtain ⟨W,hW⟩:∃ W,W=W1.alloc (.cells #[.int .u8 8,.int .i64 xty,.int .i64 xa1,.int .i64 xb1,.int .i64 xn1,.slice aa an ac,.slice ra rn rc] 31):=⟨_,rfl⟩
 have hb1:Below w.heap.size w W1:=by rw [hW1];exact alloc_below _ _
 have hs1:W1.heap.size=w.heap.size+1:=by rw [hW1];simp
 have hb2:Below W1.heap.size W1 W:=by rw [hW];exact alloc_below _ _
 have k0:W1.heap[w.heap.size]?=some (.cells #[vt,vf0] 27 (0,0)):=by rw [hW1];exact alloc_new _ _
 have k1:W.heap[W1.heap.size]?=some (.cells #[.int .u8 8,.int .i64 xty,.int .i64 xa1,.int .i64 xb1,.int .i64 xn1,.slice aa an ac,.slice ra rn rc] 31 (0,0)):=by rw [hW];exact TyD.alloc_new _ _
 have k2:W.heap[w.heap.size]?=some (.cells #[vt,vf0] 27 (0,0)):=(hb2.block _ (Array.getElem?_eq_some_iff.1 k0).1).trans k0
 have hbW:Below w.heap.size w W:=hb1.trans (hb2.mono hb1.size)
 have HP:=hid (hp0.below hbW)
 have HLI:=hid (hl.below hbW)
 have hfW:=hf.below fnStays hbW
 obtain ⟨ta,tc,rfl⟩:=ht.slice
 obtain ⟨fa,fc,rfl,_⟩:=hf.slice
 obtain ⟨la,lc,rfl,_⟩:=ints_slice hl
 rw [hs1] at k1
 have l0:∀ w',Aft W w'→w'.cell? ⟨w.heap.size,0,none⟩=some (.slice ta p.types.length tc):=later_cells k2 0 _ rfl
 have l1:∀ w',Aft W w'→w'.cell? ⟨w.heap.size,1,none⟩=some (.slice fa p.funcs.length fc):=later_cells k2 1 _ rfl
 have m0:∀ w',Aft W w'→w'.cell? ⟨w.heap.size+1,0,none⟩=some (.int .u8 8):=later_cells k1 0 _ rfl
 have m1:∀ w',Aft W w'→w'.cell? ⟨w.heap.size+1,1,none⟩=some (.int .i64 xty):=later_cells k1 1 _ rfl
 have m2:∀ w',Aft W w'→w'.cell? ⟨w.heap.size+1,2,none⟩=some (.int .i64 xa1):=later_cells k1 2 _ rfl
 have m3:∀ w',Aft W w'→w'.cell? ⟨w.heap.size+1,3,none⟩=some (.int .i64 xb1):=later_cells k1 3 _ rfl
 have m4:∀ w',Aft W w'→w'.cell? ⟨w.heap.size+1,4,none⟩=some (.int .i64 xn1):=later_cells k1 4 _ rfl
 have m5:∀ w',Aft W w'→w'.cell? ⟨w.heap.size+1,5,none⟩=some (.slice aa an ac):=later_cells k1 5 _ rfl
 have m6:∀ w',Aft W w'→w'.cell? ⟨w.heap.size+1,6,none⟩=some (.slice ra rn rc):=later_cells k1 6 _ rfl
 have HBW:=hid hbW
 have HW1:=hid hW1
 have HW:=hid hW
 have h0:=Aft.refl W
 have h0d:=h0.drew
 have HM:Hid (typedB p ⟨8,xty,xa1,xb1,xn1,xar,xfr⟩ l=(isK p.types (l.getD 0 0) 1 && (isK p.types (l.getD 1 0) 1 && isK p.types xty 1))):=by show _=_;first | rfl | simp [typedB]
 clear hp0 ht hf hl hW1 hW hb1 hb2 hs1 k0 k1 k2 hbW
 have hl0:0 < l.length:=by omega
 obtain ⟨lb,lo,rfl,c0⟩:=int_at HLI.out (getD_at hl0)
 have hm0:=hlt _ (List.mem_of_getElem? (getD_at hl0))
 have n0:=later c0
 rw [Nat.add_zero] at n0
 have hl0i:(0:Int) < (l.length:Int):=by omega
 obtain ⟨lb1,lo1,he1,c1⟩:=int_at HLI.out (getD_at hl1)
 cases he1
 have hm1:=hlt _ (List.mem_of_getElem? (getD_at hl1))
 have n1:=later c1
 have hl1i:(1:Int) < (l.length:Int):=by omega
 have HI:=hid (fun wx (h:Aft W wx)=>is_calls p (l.getD 0 0) 1 _ wx (HP.out.below h.below) hm0)
 have HJ:=hid (fun wx (h:Aft W wx)=>is_calls p (l.getD 1 0) 1 _ wx (HP.out.below h.below) hm1)
 have HK:=hid (fun wx (h:Aft W wx)=>is_calls p (xty) 1 _ wx (HP.out.below h.below) hty)
 clear hfW HLI HP hlt c0 c1 hm0 hm1 hty
 generalize isK p.types (l.getD 0 0) 1=b1 at *
 generalize isK p.types (l.getD 1 0) 1=b2 at *
 generalize isK p.types xty 1=b3 at *
 generalize l.getD 0 0=u0 at *
 generalize l.getD 1 0=u1 at *
 generalize typedB p ⟨8,xty,xa1,xb1,xn1,xar,xfr⟩ l=ans at *
 generalize p.types.length=q1 at *
 generalize p.funcs.length=q2 at *
 generalize l.length=q3 at *
 go_enter Tryz.func128,Tryz.ntmps128
 go_upto_region 1 with fail
 rw [← HW1.out,← HW.out]
 clear HW1 HW
 go_upto_region 15 with fail
 cases b1 with
 | false =>
  refine wp_region_noPanic ?_
  refine wp_region_Z (S:=(fun w'=>Aft W w')) (Z:=[]) (by kernel_rfl) ?_ (fun hHeld=>?_)
  ·(try dsimp only)
   (exact h0d)
  refine zT 0 rfl ?_
  refine zP 1 rfl ?_
  refine zP 2 rfl ?_
  refine zT 3 rfl ?_
  refine zC 4 rfl (fun K hK=>?_)
  go_simp
  (with_reducible refine (HI.out _ h0d).mono ?_)
  rintro e w2 ⟨rfl,hb2⟩
  refine hK.out _ _ ?_ (fun hHeld=>?_)
  ·(try dsimp only)
   (exact (h0d.go hb2))
  clear hK K
  refine zP 5 rfl ?_
  refine zU 6 rfl ?_
  refine zU 7 rfl ?_
  refine zU 8 rfl ?_
  refine zU 9 rfl ?_
  refine zU 10 rfl ?_
  refine zC 11 rfl (fun K hK=>?_)
  go_simp
  refine hK.out _ _ ?_ (fun hHeld=>?_)
  ·(try dsimp only)
   (exact (h0d.go hb2))
  clear hK K
  refine zP 12 rfl ?_
  refine zU 13 rfl ?_
  refine zU 14 rfl ?_
  refine zU 15 rfl ?_
  refine zU 16 rfl ?_
  refine zC 17 rfl (fun K hK=>?_)
  go_simp
  refine hK.out _ _ ?_ (fun hHeld=>?_)
  ·(try dsimp only)
   (exact (h0d.go hb2))
  clear hK K
  refine zT 18 rfl ?_
  try simp only [Act.put,List.setIfInBounds_toArray,List.set_cons_zero,List.set_cons_succ]
  refine wpAnyZ_done (by kernel_rfl) ?_ _
  refine NoPanic.normal ?_
  (try simp only [Exit.then])
  go_wp2
  go_ret
  exact ⟨by rw [HM.out];first | done | rfl,(h0d.go hb2).out HBW.out⟩
 | true =>
 cases b2 with
 | false =>
  refine wp_region_noPanic ?_
  refine wp_region_Z (S:=(fun w'=>Aft W w')) (Z:=[]) (by kernel_rfl) ?_ (fun hHeld=>?_)
  ·(try dsimp only)
   (exact h0d)
  refine zT 0 rfl ?_
  refine zP 1 rfl ?_
  refine zP 2 rfl ?_
  refine zT 3 rfl ?_
  refine zC 4 rfl (fun K hK=>?_)
  go_simp
  (with_reducible refine (HI.out _ h0d).mono ?_)
  rintro e w2 ⟨rfl,hb2⟩
  refine hK.out _ _ ?_ (fun hHeld=>?_)
  ·(try dsimp only)
   (exact (h0d.go hb2))
  clear hK K
  refine zP 5 rfl ?_
  refine zT 6 rfl ?_
  refine zP 7 rfl ?_
  refine zP 8 rfl ?_
  refine zT 9 rfl ?_
  refine zC 10 rfl (fun K hK=>?_)
  go_simp
  (with_reducible refine (HJ.out _ (h0d.go hb2)).mono ?_)
  rintro e w3 ⟨rfl,hb3⟩
  refine hK.out _ _ ?_ (fun hHeld=>?_)
  ·(try dsimp only)
   (exact ((h0d.go hb2).go hb3))
  clear hK K
  refine zC 11 rfl (fun K hK=>?_)
  go_simp
  refine hK.out _ _ ?_ (fun hHeld=>?_)
  ·(try dsimp only)
   (exact ((h0d.go hb2).go hb3))
  clear hK K
  refine zP 12 rfl ?_
  refine zU 13 rfl ?_
  refine zU 14 rfl ?_
  refine zU 15 rfl ?_
  refine zU 16 rfl ?_
  refine zC 17 rfl (fun K hK=>?_)
  go_simp
  refine hK.out _ _ ?_ (fun hHeld=>?_)
  ·(try dsimp only)
   (exact ((h0d.go hb2).go hb3))
  clear hK K
  refine zT 18 rfl ?_
  try simp only [Act.put,List.setIfInBounds_toArray,List.set_cons_zero,List.set_cons_succ]
  refine wpAnyZ_done (by kernel_rfl) ?_ _
  refine NoPanic.normal ?_
  (try simp only [Exit.then])
  go_wp2
  go_ret
  exact ⟨by rw [HM.out];first | done | rfl,((h0d.go hb2).go hb3).out HBW.out⟩
 | true =>
  refine wp_region_noPanic ?_
  refine wp_region_Z (S:=(fun w'=>Aft W w')) (Z:=[]) (by kernel_rfl) ?_ (fun hHeld=>?_)
  ·(try dsimp only)
   (exact h0d)
  refine zT 0 rfl ?_
  refine zP 1 rfl ?_
  refine zP 2 rfl ?_
  refine zT 3 rfl ?_
  refine zC 4 rfl (fun K hK=>?_)
  go_simp
  (with_reducible refine (HI.out _ h0d).mono ?_)
  rintro e w2 ⟨rfl,hb2⟩
  refine hK.out _ _ ?_ (fun hHeld=>?_)
  ·(try dsimp only)
   (exact (h0d.go hb2))
  clear hK K
  refine zP 5 rfl ?_
  refine zT 6 rfl ?_
  refine zP 7 rfl ?_
  refine zP 8 rfl ?_
  refine zT 9 rfl ?_
  refine zC 10 rfl (fun K hK=>?_)
  go_simp
  (with_reducible refine (HJ.out _ (h0d.go hb2)).mono ?_)
  rintro e w3 ⟨rfl,hb3⟩
  refine hK.out _ _ ?_ (fun hHeld=>?_)
  ·(try dsimp only)
   (exact ((h0d.go hb2).go hb3))
  clear hK K
  refine zC 11 rfl (fun K hK=>?_)
  go_simp
  refine hK.out _ _ ?_ (fun hHeld=>?_)
  ·(try dsimp only)
   (exact ((h0d.go hb2).go hb3))
  clear hK K
  refine zP 12 rfl ?_
  refine zT 13 rfl ?_
  refine zP 14 rfl ?_
  refine zT 15 rfl ?_
  refine zC 16 rfl (fun K hK=>?_)
  go_simp
  (with_reducible refine (HK.out _ ((h0d.go hb2).go hb3)).mono ?_)
  rintro e w4 ⟨rfl,hb4⟩
  refine hK.out _ _ ?_ (fun hHeld=>?_)
  ·(try dsimp only)
   (exact (((h0d.go hb2).go hb3).go hb4))
  clear hK K
  refine zC 17 rfl (fun K hK=>?_)
  go_simp
  refine hK.out _ _ ?_ (fun hHeld=>?_)
  ·(try dsimp only)
   (exact (((h0d.go hb2).go hb3).go hb4))
  clear hK K
  refine zT 18 rfl ?_
  try simp only [Act.put,List.setIfInBounds_toArray,List.set_cons_zero,List.set_cons_succ]
  refine wpAnyZ_done (by kernel_rfl) ?_ _
  refine NoPanic.normal ?_
  (try simp only [Exit.then])
  go_wp2
  go_ret
  exact ⟨by rw [HM.out];first | done | rfl,(((h0d.go hb2).go hb3).go hb4).out HBW.out⟩

theorem typed9_of (p:Px) (xty xa1 xb1 xn1:Int) (xar xfr:List Int) (aa:Option Addr) (an ac:Nat) (ra:Option Addr) (rn rc:Nat) (l:List Int) (v vl:Value) (w:World) (hp:PrAt w v p) (hl:IntsAt w vl l) (hl1:1 < l.length) (hlt:∀ n∈l,n < p.types.length) (hty:xty < p.types.length) :
  Calls Tryz.prog 128 #[v,.agg #[.int .u8 9,.int .i64 xty,.int .i64 xa1,.int .i64 xb1,.int .i64 xn1,.slice aa an ac,.slice ra rn rc],vl] w (BoolR (typedB p ⟨9,xty,xa1,xb1,xn1,xar,xfr⟩ l) w):=by
 have hp0:=hp
 obtain ⟨vt,vf0,rfl,ht,hf⟩:=hp
 obtain ⟨W1,hW1⟩:∃ W1,W1=w.alloc (.cells #[vt,vf0] 27):=⟨_,rfl⟩
 obtain ⟨W,hW⟩:∃ W,W=W1.alloc (.cells #[.int .u8 9,.int .i64 xty,.int .i64 xa1,.int .i64 xb1,.int .i64 xn1,.slice aa an ac,.slice ra rn rc] 31):=⟨_,rfl⟩
 have hb1:Below w.heap.size w W1:=by rw [hW1];exact alloc_below _ _
 have hs1:W1.heap.size=w.heap.size+1:=by rw [hW1];simp
 have hb2:Below W1.heap.size W1 W:=by rw [hW];exact alloc_below _ _
 have k0:W1.heap[w.heap.size]?=some (.cells #[vt,vf0] 27 (0,0)):=by rw [hW1];exact alloc_new _ _
 have k1:W.heap[W1.heap.size]?=some (.cells #[.int .u8 9,.int .i64 xty,.int .i64 xa1,.int .i64 xb1,.int .i64 xn1,.slice aa an ac,.slice ra rn rc] 31 (0,0)):=by rw [hW];exact TyD.alloc_new _ _
 have k2:W.heap[w.heap.size]?=some (.cells #[vt,vf0] 27 (0,0)):=(hb2.block _ (Array.getElem?_eq_some_iff.1 k0).1).trans k0
 have hbW:Below w.heap.size w W:=hb1.trans (hb2.mono hb1.size)
 have HP:=hid (hp0.below hbW)
 have HLI:=hid (hl.below hbW)
 have hfW:=hf.below fnStays hbW
 obtain ⟨ta,tc,rfl⟩:=ht.slice
 obtain ⟨fa,fc,rfl,_⟩:=hf.slice
 obtain ⟨la,lc,rfl,_⟩:=ints_slice hl
 rw [hs1] at k1
 have l0:∀ w',Aft W w'→w'.cell? ⟨w.heap.size,0,none⟩=some (.slice ta p.types.length tc):=later_cells k2 0 _ rfl
 have l1:∀ w',Aft W w'→w'.cell? ⟨w.heap.size,1,none⟩=some (.slice fa p.funcs.length fc):=later_cells k2 1 _ rfl
 have m0:∀ w',Aft W w'→w'.cell? ⟨w.heap.size+1,0,none⟩=some (.int .u8 9):=later_cells k1 0 _ rfl
 have m1:∀ w',Aft W w'→w'.cell? ⟨w.heap.size+1,1,none⟩=some (.int .i64 xty):=later_cells k1 1 _ rfl
 have m2:∀ w',Aft W w'→w'.cell? ⟨w.heap.size+1,2,none⟩=some (.int .i64 xa1):=later_cells k1 2 _ rfl
 have m3:∀ w',Aft W w'→w'.cell? ⟨w.heap.size+1,3,none⟩=some (.int .i64 xb1):=later_cells k1 3 _ rfl
 have m4:∀ w',Aft W w'→w'.cell? ⟨w.heap.size+1,4,none⟩=some (.int .i64 xn1):=later_cells k1 4 _ rfl
 have m5:∀ w',Aft W w'→w'.cell? ⟨w.heap.size+1,5,none⟩=some (.slice aa an ac):=later_cells k1 5 _ rfl
 have m6:∀ w',Aft W w'→w'.cell? ⟨w.heap.size+1,6,none⟩=some (.slice ra rn rc):=later_cells k1 6 _ rfl
 have HBW:=hid hbW
 have HW1:=hid hW1
 have HW:=hid hW
 have h0:=Aft.refl W
 have h0d:=h0.drew
 have HM:Hid (typedB p ⟨9,xty,xa1,xb1,xn1,xar,xfr⟩ l=(isK p.types (l.getD 0 0) 1 && (isK p.types (l.getD 1 0) 1 && isK p.types xty 1))):=by show _=_;first | rfl | simp [typedB]
 clear hp0 ht hf hl hW1 hW hb1 hb2 hs1 k0 k1 k2 hbW
 have hl0:0 < l.length:=by omega
 obtain ⟨lb,lo,rfl,c0⟩:=int_at HLI.out (getD_at hl0)
 have hm0:=hlt _ (List.mem_of_getElem? (getD_at hl0))
 have n0:=later c0
 rw [Nat.add_zero] at n0
 have hl0i:(0:Int) < (l.length:Int):=by omega
 obtain ⟨lb1,lo1,he1,c1⟩:=int_at HLI.out (getD_at hl1)
 cases he1
 have hm1:=hlt _ (List.mem_of_getElem? (getD_at hl1))
 have n1:=later c1
 have hl1i:(1:Int) < (l.length:Int):=by omega
 have HI:=hid (fun wx (h:Aft W wx)=>is_calls p (l.getD 0 0) 1 _ wx (HP.out.below h.below) hm0)
 have HJ:=hid (fun wx (h:Aft W wx)=>is_calls p (l.getD 1 0) 1 _ wx (HP.out.below h.below) hm1)
 have HK:=hid (fun wx (h:Aft W wx)=>is_calls p (xty) 1 _ wx (HP.out.below h.below) hty)
 clear hfW HLI HP hlt c0 c1 hm0 hm1 hty
 generalize isK p.types (l.getD 0 0) 1=b1 at *
 generalize isK p.types (l.getD 1 0) 1=b2 at *
 generalize isK p.types xty 1=b3 at *
 generalize l.getD 0 0=u0 at *
 generalize l.getD 1 0=u1 at *
 generalize typedB p ⟨9,xty,xa1,xb1,xn1,xar,xfr⟩ l=ans at *
 generalize p.types.length=q1 at *
 generalize p.funcs.length=q2 at *
 generalize l.length=q3 at *
 go_enter Tryz.func128,Tryz.ntmps128
 go_upto_region 1 with fail
 rw [← HW1.out,← HW.out]
 clear HW1 HW
 go_upto_region 15 with fail
 cases b1 with
 | false =>
  refine wp_region_noPanic ?_
  refine wp_region_Z (S:=(fun w'=>Aft W w')) (Z:=[]) (by kernel_rfl) ?_ (fun hHeld=>?_)
  ·(try dsimp only)
   (exact h0d)
  refine zT 0 rfl ?_
  refine zP 1 rfl ?_
  refine zP 2 rfl ?_
  refine zT 3 rfl ?_
  refine zC 4 rfl (fun K hK=>?_)
  go_simp
  (with_reducible refine (HI.out _ h0d).mono ?_)
  rintro e w2 ⟨rfl,hb2⟩
  refine hK.out _ _ ?_ (fun hHeld=>?_)
  ·(try dsimp only)
   (exact (h0d.go hb2))
  clear hK K
  refine zP 5 rfl ?_
  refine zU 6 rfl ?_
  refine zU 7 rfl ?_
  refine zU 8 rfl ?_
  refine zU 9 rfl ?_
  refine zU 10 rfl ?_
  refine zC 11 rfl (fun K hK=>?_)
  go_simp
  refine hK.out _ _ ?_ (fun hHeld=>?_)
  ·(try dsimp only)
   (exact (h0d.go hb2))
  clear hK K
  refine zP 12 rfl ?_
  refine zU 13 rfl ?_
  refine zU 14 rfl ?_
  refine zU 15 rfl ?_
  refine zU 16 rfl ?_
  refine zC 17 rfl (fun K hK=>?_)
  go_simp
  refine hK.out _ _ ?_ (fun hHeld=>?_)
  ·(try dsimp only)
   (exact (h0d.go hb2))
  clear hK K
  refine zT 18 rfl ?_
  try simp only [Act.put,List.setIfInBounds_toArray,List.set_cons_zero,List.set_cons_succ]
  refine wpAnyZ_done (by kernel_rfl) ?_ _
  refine NoPanic.normal ?_
  (try simp only [Exit.then])
  go_wp2
  go_ret
  exact ⟨by rw [HM.out];first | done | rfl,(h0d.go hb2).out HBW.out⟩
 | true =>
 cases b2 with
 | false =>
  refine wp_region_noPanic ?_
  refine wp_region_Z (S:=(fun w'=>Aft W w')) (Z:=[]) (by kernel_rfl) ?_ (fun hHeld=>?_)
  ·(try dsimp only)
   (exact h0d)
  refine zT 0 rfl ?_
  refine zP 1 rfl ?_
  refine zP 2 rfl ?_
  refine zT 3 rfl ?_
  refine zC 4 rfl (fun K hK=>?_)
  go_simp
  (with_reducible refine (HI.out _ h0d).mono ?_)
  rintro e w2 ⟨rfl,hb2⟩
  refine hK.out _ _ ?_ (fun hHeld=>?_)
  ·(try dsimp only)
   (exact (h0d.go hb2))
  clear hK K
  refine zP 5 rfl ?_
  refine zT 6 rfl ?_
  refine zP 7 rfl ?_
  refine zP 8 rfl ?_
  refine zT 9 rfl ?_
  refine zC 10 rfl (fun K hK=>?_)
  go_simp
  (with_reducible refine (HJ.out _ (h0d.go hb2)).mono ?_)
  rintro e w3 ⟨rfl,hb3⟩
  refine hK.out _ _ ?_ (fun hHeld=>?_)
  ·(try dsimp only)
   (exact ((h0d.go hb2).go hb3))
  clear hK K
  refine zC 11 rfl (fun K hK=>?_)
  go_simp
  refine hK.out _ _ ?_ (fun hHeld=>?_)
  ·(try dsimp only)
   (exact ((h0d.go hb2).go hb3))
  clear hK K
  refine zP 12 rfl ?_
  refine zU 13 rfl ?_
  refine zU 14 rfl ?_
  refine zU 15 rfl ?_
  refine zU 16 rfl ?_
  refine zC 17 rfl (fun K hK=>?_)
  go_simp
  refine hK.out _ _ ?_ (fun hHeld=>?_)
  ·(try dsimp only)
   (exact ((h0d.go hb2).go hb3))
  clear hK K
  refine zT 18 rfl ?_
  try simp only [Act.put,List.setIfInBounds_toArray,List.set_cons_zero,List.set_cons_succ]
  refine wpAnyZ_done (by kernel_rfl) ?_ _
  refine NoPanic.normal ?_
  (try simp only [Exit.then])
  go_wp2
  go_ret
  exact ⟨by rw [HM.out];first | done | rfl,((h0d.go hb2).go hb3).out HBW.out⟩
 | true =>
  refine wp_region_noPanic ?_
  refine wp_region_Z (S:=(fun w'=>Aft W w')) (Z:=[]) (by kernel_rfl) ?_ (fun hHeld=>?_)
  ·(try dsimp only)
   (exact h0d)
  refine zT 0 rfl ?_
  refine zP 1 rfl ?_
  refine zP 2 rfl ?_
  refine zT 3 rfl ?_
  refine zC 4 rfl (fun K hK=>?_)
  go_simp
  (with_reducible refine (HI.out _ h0d).mono ?_)
  rintro e w2 ⟨rfl,hb2⟩
  refine hK.out _ _ ?_ (fun hHeld=>?_)
  ·(try dsimp only)
   (exact (h0d.go hb2))
  clear hK K
  refine zP 5 rfl ?_
  refine zT 6 rfl ?_
  refine zP 7 rfl ?_
  refine zP 8 rfl ?_
  refine zT 9 rfl ?_
  refine zC 10 rfl (fun K hK=>?_)
  go_simp
  (with_reducible refine (HJ.out _ (h0d.go hb2)).mono ?_)
  rintro e w3 ⟨rfl,hb3⟩
  refine hK.out _ _ ?_ (fun hHeld=>?_)
  ·(try dsimp only)
   (exact ((h0d.go hb2).go hb3))
  clear hK K
  refine zC 11 rfl (fun K hK=>?_)
  go_simp
  refine hK.out _ _ ?_ (fun hHeld=>?_)
  ·(try dsimp only)
   (exact ((h0d.go hb2).go hb3))
  clear hK K
  refine zP 12 rfl ?_
  refine zT 13 rfl ?_
  refine zP 14 rfl ?_
  refine zT 15 rfl ?_
  refine zC 16 rfl (fun K hK=>?_)
  go_simp
  (with_reducible refine (HK.out _ ((h0d.go hb2).go hb3)).mono ?_)
  rintro e w4 ⟨rfl,hb4⟩
  refine hK.out _ _ ?_ (fun hHeld=>?_)
  ·(try dsimp only)
   (exact (((h0d.go hb2).go hb3).go hb4))
  clear hK K
  refine zC 17 rfl (fun K hK=>?_)
  go_simp
  refine hK.out _ _ ?_ (fun hHeld=>?_)
  ·(try dsimp only)
   (exact (((h0d.go hb2).go hb3).go hb4))
  clear hK K
  refine zT 18 rfl ?_
  try simp only [Act.put,List.setIfInBounds_toArray,List.set_cons_zero,List.set_cons_succ]
  refine wpAnyZ_done (by kernel_rfl) ?_ _
  refine NoPanic.normal ?_
  (try simp only [Exit.then])
  go_wp2
  go_ret
  exact ⟨by rw [HM.out];first | done | rfl,(((h0d.go hb2).go hb3).go hb4).out HBW.out⟩

theorem typed10_of (p:Px) (xty xa1 xb1 xn1:Int) (xar xfr:List Int) (aa:Option Addr) (an ac:Nat) (ra:Option Addr) (rn rc:Nat) (l:List Int) (v vl:Value) (w:World) (hp:PrAt w v p) (hl:IntsAt w vl l) (hl1:1 < l.length) (hlt:∀ n∈l,n < p.types.length) (hty:xty < p.types.length) :
  Calls Tryz.prog 128 #[v,.agg #[.int .u8 10,.int .i64 xty,.int .i64 xa1,.int .i64 xb1,.int .i64 xn1,.slice aa an ac,.slice ra rn rc],vl] w (BoolR (typedB p ⟨10,xty,xa1,xb1,xn1,xar,xfr⟩ l) w):=by
 have hp0:=hp
 obtain ⟨vt,vf0,rfl,ht,hf⟩:=hp
 obtain ⟨W1,hW1⟩:∃ W1,W1=w.alloc (.cells #[vt,vf0] 27):=⟨_,rfl⟩
 obtain ⟨W,hW⟩:∃ W,W=W1.alloc (.cells #[.int .u8 10,.int .i64 xty,.int .i64 xa1,.int .i64 xb1,.int .i64 xn1,.slice aa an ac,.slice ra rn rc] 31):=⟨_,rfl⟩
 have hb1:Below w.heap.size w W1:=by rw [hW1];exact alloc_below _ _
 have hs1:W1.heap.size=w.heap.size+1:=by rw [hW1];simp
 have hb2:Below W1.heap.size W1 W:=by rw [hW];exact alloc_below _ _
 have k0:W1.heap[w.heap.size]?=some (.cells #[vt,vf0] 27 (0,0)):=by rw [hW1];exact alloc_new _ _
 have k1:W.heap[W1.heap.size]?=some (.cells #[.int .u8 10,.int .i64 xty,.int .i64 xa1,.int .i64 xb1,.int .i64 xn1,.slice aa an ac,.slice ra rn rc] 31 (0,0)):=by rw [hW];exact TyD.alloc_new _ _
 have k2:W.heap[w.heap.size]?=some (.cells #[vt,vf0] 27 (0,0)):=(hb2.block _ (Array.getElem?_eq_some_iff.1 k0).1).trans k0
 have hbW:Below w.heap.size w W:=hb1.trans (hb2.mono hb1.size)
 have HP:=hid (hp0.below hbW)
 have HLI:=hid (hl.below hbW)
 have hfW:=hf.below fnStays hbW
 obtain ⟨ta,tc,rfl⟩:=ht.slice
 obtain ⟨fa,fc,rfl,_⟩:=hf.slice
 obtain ⟨la,lc,rfl,_⟩:=ints_slice hl
 rw [hs1] at k1
 have l0:∀ w',Aft W w'→w'.cell? ⟨w.heap.size,0,none⟩=some (.slice ta p.types.length tc):=later_cells k2 0 _ rfl
 have l1:∀ w',Aft W w'→w'.cell? ⟨w.heap.size,1,none⟩=some (.slice fa p.funcs.length fc):=later_cells k2 1 _ rfl
 have m0:∀ w',Aft W w'→w'.cell? ⟨w.heap.size+1,0,none⟩=some (.int .u8 10):=later_cells k1 0 _ rfl
 have m1:∀ w',Aft W w'→w'.cell? ⟨w.heap.size+1,1,none⟩=some (.int .i64 xty):=later_cells k1 1 _ rfl
 have m2:∀ w',Aft W w'→w'.cell? ⟨w.heap.size+1,2,none⟩=some (.int .i64 xa1):=later_cells k1 2 _ rfl
 have m3:∀ w',Aft W w'→w'.cell? ⟨w.heap.size+1,3,none⟩=some (.int .i64 xb1):=later_cells k1 3 _ rfl
 have m4:∀ w',Aft W w'→w'.cell? ⟨w.heap.size+1,4,none⟩=some (.int .i64 xn1):=later_cells k1 4 _ rfl
 have m5:∀ w',Aft W w'→w'.cell? ⟨w.heap.size+1,5,none⟩=some (.slice aa an ac):=later_cells k1 5 _ rfl
 have m6:∀ w',Aft W w'→w'.cell? ⟨w.heap.size+1,6,none⟩=some (.slice ra rn rc):=later_cells k1 6 _ rfl
 have HBW:=hid hbW
 have HW1:=hid hW1
 have HW:=hid hW
 have h0:=Aft.refl W
 have h0d:=h0.drew
 have HM:Hid (typedB p ⟨10,xty,xa1,xb1,xn1,xar,xfr⟩ l=(isK p.types (l.getD 0 0) 2 && (decide (l.getD 0 0=l.getD 1 0) && isK p.types xty 1))):=by show _=_;first | rfl | simp [typedB]
 clear hp0 ht hf hl hW1 hW hb1 hb2 hs1 k0 k1 k2 hbW
 have hl0:0 < l.length:=by omega
 obtain ⟨lb,lo,rfl,c0⟩:=int_at HLI.out (getD_at hl0)
 have hm0:=hlt _ (List.mem_of_getElem? (getD_at hl0))
 have n0:=later c0
 rw [Nat.add_zero] at n0
 have hl0i:(0:Int) < (l.length:Int):=by omega
 obtain ⟨lb1,lo1,he1,c1⟩:=int_at HLI.out (getD_at hl1)
 cases he1
 have hm1:=hlt _ (List.mem_of_getElem? (getD_at hl1))
 have n1:=later c1
 have hl1i:(1:Int) < (l.length:Int):=by omega
 have HI:=hid (fun wx (h:Aft W wx)=>is_calls p (l.getD 0 0) 2 _ wx (HP.out.below h.below) hm0)
 have HK:=hid (fun wx (h:Aft W wx)=>is_calls p (xty) 1 _ wx (HP.out.below h.below) hty)
 have HX:Hid ((l.getD 0 0 == l.getD 1 0)=decide (l.getD 0 0=l.getD 1 0)):=by show _=_;rw [Bool.eq_iff_iff];simp
 clear hfW HLI HP hlt c0 c1 hm0 hm1 hty
 rw [← HX.out] at HM
 generalize isK p.types (l.getD 0 0) 2=b1 at *
 generalize isK p.types xty 1=b3 at *
 generalize l.getD 0 0=u0 at *
 generalize l.getD 1 0=u1 at *
 generalize typedB p ⟨10,xty,xa1,xb1,xn1,xar,xfr⟩ l=ans at *
 generalize p.types.length=q1 at *
 generalize p.funcs.length=q2 at *
 generalize l.length=q3 at *
 go_enter Tryz.func128,Tryz.ntmps128
 go_upto_region 1 with fail
 rw [← HW1.out,← HW.out]
 clear HW1 HW
 go_upto_region 17 with fail
 cases b1 with
 | false =>
  refine wp_region_noPanic ?_
  refine wp_region_Z (S:=(fun w'=>Aft W w')) (Z:=[]) (by kernel_rfl) ?_ (fun hHeld=>?_)
  ·(try dsimp only)
   (exact h0d)
  refine zT 0 rfl ?_
  refine zP 1 rfl ?_
  refine zP 2 rfl ?_
  refine zT 3 rfl ?_
  refine zC 4 rfl (fun K hK=>?_)
  go_simp
  (with_reducible refine (HI.out _ h0d).mono ?_)
  rintro e w2 ⟨rfl,hb2⟩
  refine hK.out _ _ ?_ (fun hHeld=>?_)
  ·(try dsimp only)
   (exact (h0d.go hb2))
  clear hK K
  refine zP 5 rfl ?_
  refine zU 6 rfl ?_
  refine zU 7 rfl ?_
  refine zU 8 rfl ?_
  refine zU 9 rfl ?_
  refine zU 10 rfl ?_
  refine zU 11 rfl ?_
  refine zU 12 rfl ?_
  refine zC 13 rfl (fun K hK=>?_)
  go_simp
  refine hK.out _ _ ?_ (fun hHeld=>?_)
  ·(try dsimp only)
   (exact (h0d.go hb2))
  clear hK K
  refine zP 14 rfl ?_
  refine zU 15 rfl ?_
  refine zU 16 rfl ?_
  refine zU 17 rfl ?_
  refine zU 18 rfl ?_
  refine zC 19 rfl (fun K hK=>?_)
  go_simp
  refine hK.out _ _ ?_ (fun hHeld=>?_)
  ·(try dsimp only)
   (exact (h0d.go hb2))
  clear hK K
  refine zT 20 rfl ?_
  try simp only [Act.put,List.setIfInBounds_toArray,List.set_cons_zero,List.set_cons_succ]
  refine wpAnyZ_done (by kernel_rfl) ?_ _
  refine NoPanic.normal ?_
  (try simp only [Exit.then])
  go_wp2
  go_ret
  exact ⟨by rw [HM.out];first | done | rfl,(h0d.go hb2).out HBW.out⟩
 | true =>
 by_cases hq:u0=u1
 ·have eq:(u0 == u1)=true:=by simpa using hq
  rw [eq] at HM
  clear hq HX
  refine wp_region_noPanic ?_
  refine wp_region_Z (S:=(fun w'=>Aft W w')) (Z:=[]) (by kernel_rfl) ?_ (fun hHeld=>?_)
  ·(try dsimp only)
   (exact h0d)
  refine zT 0 rfl ?_
  refine zP 1 rfl ?_
  refine zP 2 rfl ?_
  refine zT 3 rfl ?_
  refine zC 4 rfl (fun K hK=>?_)
  go_simp
  (with_reducible refine (HI.out _ h0d).mono ?_)
  rintro e w2 ⟨rfl,hb2⟩
  refine hK.out _ _ ?_ (fun hHeld=>?_)
  ·(try dsimp only)
   (exact (h0d.go hb2))
  clear hK K
  refine zP 5 rfl ?_
  refine zP 6 rfl ?_
  refine zP 7 rfl ?_
  refine zT 8 rfl ?_
  refine zP 9 rfl ?_
  refine zP 10 rfl ?_
  refine zT 11 rfl ?_
  refine zP 12 rfl ?_
  refine zC 13 rfl (fun K hK=>?_)
  go_simp
  refine hK.out _ _ ?_ (fun hHeld=>?_)
  ·(try dsimp only)
   (exact (h0d.go hb2))
  clear hK K
  refine zP 14 rfl ?_
  refine zT 15 rfl ?_
  refine zP 16 rfl ?_
  refine zT 17 rfl ?_
  refine zC 18 rfl (fun K hK=>?_)
  go_simp
  (with_reducible refine (HK.out _ (h0d.go hb2)).mono ?_)
  rintro e w3 ⟨rfl,hb3⟩
  refine hK.out _ _ ?_ (fun hHeld=>?_)
  ·(try dsimp only)
   (exact ((h0d.go hb2).go hb3))
  clear hK K
  refine zC 19 rfl (fun K hK=>?_)
  go_simp
  refine hK.out _ _ ?_ (fun hHeld=>?_)
  ·(try dsimp only)
   (exact ((h0d.go hb2).go hb3))
  clear hK K
  refine zT 20 rfl ?_
  try simp only [Act.put,List.setIfInBounds_toArray,List.set_cons_zero,List.set_cons_succ]
  refine wpAnyZ_done (by kernel_rfl) ?_ _
  refine NoPanic.normal ?_
  (try simp only [Exit.then])
  go_wp2
  go_ret
  exact ⟨by rw [HM.out];first | done | rfl,((h0d.go hb2).go hb3).out HBW.out⟩
 ·have eq:(u0 == u1)=false:=by simpa using hq
  rw [eq] at HM
  clear hq HX
  refine wp_region_noPanic ?_
  refine wp_region_Z (S:=(fun w'=>Aft W w')) (Z:=[]) (by kernel_rfl) ?_ (fun hHeld=>?_)
  ·(try dsimp only)
   (exact h0d)
  refine zT 0 rfl ?_
  refine zP 1 rfl ?_
  refine zP 2 rfl ?_
  refine zT 3 rfl ?_
  refine zC 4 rfl (fun K hK=>?_)
  go_simp
  (with_reducible refine (HI.out _ h0d).mono ?_)
  rintro e w2 ⟨rfl,hb2⟩
  refine hK.out _ _ ?_ (fun hHeld=>?_)
  ·(try dsimp only)
   (exact (h0d.go hb2))
  clear hK K
  refine zP 5 rfl ?_
  refine zP 6 rfl ?_
  refine zP 7 rfl ?_
  refine zT 8 rfl ?_
  refine zP 9 rfl ?_
  refine zP 10 rfl ?_
  refine zT 11 rfl ?_
  refine zP 12 rfl ?_
  refine zC 13 rfl (fun K hK=>?_)
  go_simp
  refine hK.out _ _ ?_ (fun hHeld=>?_)
  ·(try dsimp only)
   (exact (h0d.go hb2))
  clear hK K
  refine zP 14 rfl ?_
  refine zU 15 rfl ?_
  refine zU 16 rfl ?_
  refine zU 17 rfl ?_
  refine zU 18 rfl ?_
  refine zC 19 rfl (fun K hK=>?_)
  go_simp
  refine hK.out _ _ ?_ (fun hHeld=>?_)
  ·(try dsimp only)
   (exact (h0d.go hb2))
  clear hK K
  refine zT 20 rfl ?_
  try simp only [Act.put,List.setIfInBounds_toArray,List.set_cons_zero,List.set_cons_succ]
  refine wpAnyZ_done (by kernel_rfl) ?_ _
  refine NoPanic.normal ?_
  (try simp only [Exit.then])
  go_wp2
  go_ret
  exact ⟨by rw [HM.out];first | done | rfl,(h0d.go hb2).out HBW.out⟩
end Go.Proofs.YtpejpnffcepdlaaGreatDoor.SwW
