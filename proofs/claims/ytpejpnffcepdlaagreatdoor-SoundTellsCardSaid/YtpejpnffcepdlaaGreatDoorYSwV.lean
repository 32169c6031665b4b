/- Walks over fescueref12.Typed, by the operation: 1 2 11 12 13 14..17 20 21. -/
import Derived.Test.YtpejpnffcepdlaaGreatDoorYSvQToSwU
import Derived.Test.YtpejpnffcepdlaaGreatDoorYShIToFvEU
import Derived.Deep.RegionHeld3
set_option maxRecDepth 100000
set_option maxHeartbeats 16000000
namespace Go.Proofs.YtpejpnffcepdlaaGreatDoor.SwV
open Go.RowKit Go.Lib RwO SetP IntO TyM TyP TyB TyC TyRA TyRE ShM ShP ShA ShB ShC ShE ShRA ShH ShI ShJ ShRG Aft FwM FwC FwP FwQ FwR FvA FvB FdQ LvM SvQ SvP SwA SwM RgZ IntG

theorem typed1_of (p:Px) (xty xa1 xb1 xn1:Int) (xar xfr:List Int) (aa:Option Addr) (an ac:Nat) (ra:Option Addr) (rn rc:Nat) (l:List Int) (v vl:Value) (w:World) (hp:PrAt w v p) (hl:IntsAt w vl l) (hty:xty < p.types.length) :
  Calls Tryz.prog 128 #[v,.agg #[.int .u8 1,.int .i64 xty,.int .i64 xa1,.int .i64 xb1,.int .i64 xn1,.slice aa an ac,.slice ra rn rc],vl] w (BoolR (typedB p ⟨1,xty,xa1,xb1,xn1,xar,xfr⟩ l) w):=by
 have hp0:=hp
 obtain ⟨vt,vf0,rfl,ht,hf⟩:=hp
 obtain ⟨W1,hW1⟩:∃ W1,W1=w.alloc (.cells #[vt,vf0] 27):=⟨_,rfl⟩
 obtain ⟨W,hW⟩:∃ W,W=W1.alloc (.cells #[.int .u8 1,.int .i64 xty,.int .i64 xa1,.int .i64 xb1,.int .i64 xn1,.slice aa an ac,.slice ra rn rc] 31):=⟨_,rfl⟩
 have hb1:Below w.heap.size w W1:=by rw [hW1];exact alloc_below _ _
 have hs1:W1.heap.size=w.heap.size+1:=by rw [hW1];simp
 have hb2:Below W1.heap.size W1 W:=by rw [hW];exact alloc_below _ _
 have k0:W1.heap[w.heap.size]?=some (.cells #[vt,vf0] 27 (0,0)):=by rw [hW1];exact alloc_new _ _
 have k1:W.heap[W1.heap.size]?=some (.cells #[.int .u8 1,.int .i64 xty,.int .i64 xa1,.int .i64 xb1,.int .i64 xn1,.slice aa an ac,.slice ra rn rc] 31 (0,0)):=by rw [hW];exact TyD.alloc_new _ _
 have k2:W.heap[w.heap.size]?=some (.cells #[vt,vf0] 27 (0,0)):=(hb2.block _ (Array.getElem?_eq_some_iff.1 k0).1).trans k0
 have hbW:Below w.heap.size w W:=hb1.trans (hb2.mono hb1.size)
 have HP:=hid (hp0.below hbW)
 have HLI:=hid (hl.below hbW)
 have hfW:=hf.below fnStays hbW
 obtain ⟨ta,tc,rfl⟩:=ht.slice
 obtain ⟨fa,fc,rfl,_⟩:=hf.slice
 obtain ⟨la,lc,rfl,_⟩:=ints_slice hl
 rw [hs1] at k1
 have l0:∀ w',Aft W w'→w'.cell? ⟨w.heap.size,0,none⟩=some (.slice ta p.types.length tc):=later_cells k2 0 _ rfl
 have l1:∀ w',Aft W w'→w'.cell? ⟨w.heap.size,1,none⟩=some (.slice fa p.funcs.length fc):=later_cells k2 1 _ rfl
 have m0:∀ w',Aft W w'→w'.cell? ⟨w.heap.size+1,0,none⟩=some (.int .u8 1):=later_cells k1 0 _ rfl
 have m1:∀ w',Aft W w'→w'.cell? ⟨w.heap.size+1,1,none⟩=some (.int .i64 xty):=later_cells k1 1 _ rfl
 have m2:∀ w',Aft W w'→w'.cell? ⟨w.heap.size+1,2,none⟩=some (.int .i64 xa1):=later_cells k1 2 _ rfl
 have m3:∀ w',Aft W w'→w'.cell? ⟨w.heap.size+1,3,none⟩=some (.int .i64 xb1):=later_cells k1 3 _ rfl
 have m4:∀ w',Aft W w'→w'.cell? ⟨w.heap.size+1,4,none⟩=some (.int .i64 xn1):=later_cells k1 4 _ rfl
 have m5:∀ w',Aft W w'→w'.cell? ⟨w.heap.size+1,5,none⟩=some (.slice aa an ac):=later_cells k1 5 _ rfl
 have m6:∀ w',Aft W w'→w'.cell? ⟨w.heap.size+1,6,none⟩=some (.slice ra rn rc):=later_cells k1 6 _ rfl
 have HBW:=hid hbW
 have HW1:=hid hW1
 have HW:=hid hW
 have h0:=Aft.refl W
 have h0d:=h0.drew
 have HM:Hid (typedB p ⟨1,xty,xa1,xb1,xn1,xar,xfr⟩ l=(isK p.types xty 1)):=by show _=_;first | rfl | simp [typedB]
 clear hp0 ht hf hl hW1 hW hb1 hb2 hs1 k0 k1 k2 hbW
 have HI:=hid (fun wx (h:Aft W wx)=>is_calls p (xty) 1 _ wx (HP.out.below h.below) hty)
 generalize isK p.types xty 1=b1 at *
 clear hfW HLI HP hty
 generalize typedB p ⟨1,xty,xa1,xb1,xn1,xar,xfr⟩ l=ans at *
 generalize p.types.length=q1 at *
 generalize p.funcs.length=q2 at *
 generalize l.length=q3 at *
 go_enter Tryz.func128,Tryz.ntmps128
 go_upto_region 1 with fail
 rw [← HW1.out,← HW.out]
 clear HW1 HW
 go_wp2_with fail
 refine (HI.out _ h0).mono ?_
 rintro e w2 ⟨rfl,hb2⟩
 clear HI
 go_wp2
 go_ret
 exact ⟨by rw [HM.out];first | done | rfl,(h0.go hb2).out HBW.out⟩

theorem typed20_of (p:Px) (xty xa1 xb1 xn1:Int) (xar xfr:List Int) (aa:Option Addr) (an ac:Nat) (ra:Option Addr) (rn rc:Nat) (l:List Int) (v vl:Value) (w:World) (hp:PrAt w v p) (hl:IntsAt w vl l) (hty:xty < p.types.length) :
  Calls Tryz.prog 128 #[v,.agg #[.int .u8 20,.int .i64 xty,.int .i64 xa1,.int .i64 xb1,.int .i64 xn1,.slice aa an ac,.slice ra rn rc],vl] w (BoolR (typedB p ⟨20,xty,xa1,xb1,xn1,xar,xfr⟩ l) w):=by
 have hp0:=hp
 obtain ⟨vt,vf0,rfl,ht,hf⟩:=hp
 obtain ⟨W1,hW1⟩:∃ W1,W1=w.alloc (.cells #[vt,vf0] 27):=⟨_,rfl⟩
 obtain ⟨W,hW⟩:∃ W,W=W1.alloc (.cells #[.int .u8 20,.int .i64 xty,.int .i64 xa1,.int .i64 xb1,.int .i64 xn1,.slice aa an ac,.slice ra rn rc] 31):=⟨_,rfl⟩
 have hb1:Below w.heap.size w W1:=by rw [hW1];exact alloc_below _ _
 have hs1:W1.heap.size=w.heap.size+1:=by rw [hW1];simp
 have hb2:Below W1.heap.size W1 W:=by rw [hW];exact alloc_below _ _
 have k0:W1.heap[w.heap.size]?=some (.cells #[vt,vf0] 27 (0,0)):=by rw [hW1];exact alloc_new _ _
 have k1:W.heap[W1.heap.size]?=some (.cells #[.int .u8 20,.int .i64 xty,.int .i64 xa1,.int .i64 xb1,.int .i64 xn1,.slice aa an ac,.slice ra rn rc] 31 (0,0)):=by rw [hW];exact TyD.alloc_new _ _
 have k2:W.heap[w.heap.size]?=some (.cells #[vt,vf0] 27 (0,0)):=(hb2.block _ (Array.getElem?_eq_some_iff.1 k0).1).trans k0
 have hbW:Below w.heap.size w W:=hb1.trans (hb2.mono hb1.size)
 have HP:=hid (hp0.below hbW)
 have HLI:=hid (hl.below hbW)
 have hfW:=hf.below fnStays hbW
 obtain ⟨ta,tc,rfl⟩:=ht.slice
 obtain ⟨fa,fc,rfl,_⟩:=hf.slice
 obtain ⟨la,lc,rfl,_⟩:=ints_slice hl
 rw [hs1] at k1
 have l0:∀ w',Aft W w'→w'.cell? ⟨w.heap.size,0,none⟩=some (.slice ta p.types.length tc):=later_cells k2 0 _ rfl
 have l1:∀ w',Aft W w'→w'.cell? ⟨w.heap.size,1,none⟩=some (.slice fa p.funcs.length fc):=later_cells k2 1 _ rfl
 have m0:∀ w',Aft W w'→w'.cell? ⟨w.heap.size+1,0,none⟩=some (.int .u8 20):=later_cells k1 0 _ rfl
 have m1:∀ w',Aft W w'→w'.cell? ⟨w.heap.size+1,1,none⟩=some (.int .i64 xty):=later_cells k1 1 _ rfl
 have m2:∀ w',Aft W w'→w'.cell? ⟨w.heap.size+1,2,none⟩=some (.int .i64 xa1):=later_cells k1 2 _ rfl
 have m3:∀ w',Aft W w'→w'.cell? ⟨w.heap.size+1,3,none⟩=some (.int .i64 xb1):=later_cells k1 3 _ rfl
 have m4:∀ w',Aft W w'→w'.cell? ⟨w.heap.size+1,4,none⟩=some (.int .i64 xn1):=later_cells k1 4 _ rfl
 have m5:∀ w',Aft W w'→w'.cell? ⟨w.heap.size+1,5,none⟩=some (.slice aa an ac):=later_cells k1 5 _ rfl
 have m6:∀ w',Aft W w'→w'.cell? ⟨w.heap.size+1,6,none⟩=some (.slice ra rn rc):=later_cells k1 6 _ rfl
 have HBW:=hid hbW
 have HW1:=hid hW1
 have HW:=hid hW
 have h0:=Aft.refl W
 have h0d:=h0.drew
 have HM:Hid (typedB p ⟨20,xty,xa1,xb1,xn1,xar,xfr⟩ l=(isK p.types xty 1)):=by show _=_;first | rfl | simp [typedB]
 clear hp0 ht hf hl hW1 hW hb1 hb2 hs1 k0 k1 k2 hbW
 have HI:=hid (fun wx (h:Aft W wx)=>is_calls p (xty) 1 _ wx (HP.out.below h.below) hty)
 generalize isK p.types xty 1=b1 at *
 clear hfW HLI HP hty
 generalize typedB p ⟨20,xty,xa1,xb1,xn1,xar,xfr⟩ l=ans at *
 generalize p.types.length=q1 at *
 generalize p.funcs.length=q2 at *
 generalize l.length=q3 at *
 go_enter Tryz.func128,Tryz.ntmps128
 go_upto_region 1 with fail
 rw [← HW1.out,← HW.out]
 clear HW1 HW
 go_wp2_with fail
 refine (HI.out _ h0).mono ?_
 rintro e w2 ⟨rfl,hb2⟩
 clear HI
 go_wp2
 go_ret
 exact ⟨by rw [HM.out];first | done | rfl,(h0.go hb2).out HBW.out⟩

theorem typed11_of (p:Px) (xty xa1 xb1 xn1:Int) (xar xfr:List Int) (aa:Option Addr) (an ac:Nat) (ra:Option Addr) (rn rc:Nat) (l:List Int) (v vl:Value) (w:World) (hp:PrAt w v p) (hl:IntsAt w vl l) (hty:xty < p.types.length) :
  Calls Tryz.prog 128 #[v,.agg #[.int .u8 11,.int .i64 xty,.int .i64 xa1,.int .i64 xb1,.int .i64 xn1,.slice aa an ac,.slice ra rn rc],vl] w (BoolR (typedB p ⟨11,xty,xa1,xb1,xn1,xar,xfr⟩ l) w):=by
 have hp0:=hp
 obtain ⟨vt,vf0,rfl,ht,hf⟩:=hp
 obtain ⟨W1,hW1⟩:∃ W1,W1=w.alloc (.cells #[vt,vf0] 27):=⟨_,rfl⟩
 obtain ⟨W,hW⟩:∃ W,W=W1.alloc (.cells #[.int .u8 11,.int .i64 xty,.int .i64 xa1,.int .i64 xb1,.int .i64 xn1,.slice aa an ac,.slice ra rn rc] 31):=⟨_,rfl⟩
 have hb1:Below w.heap.size w W1:=by rw [hW1];exact alloc_below _ _
 have hs1:W1.heap.size=w.heap.size+1:=by rw [hW1];simp
 have hb2:Below W1.heap.size W1 W:=by rw [hW];exact alloc_below _ _
 have k0:W1.heap[w.heap.size]?=some (.cells #[vt,vf0] 27 (0,0)):=by rw [hW1];exact alloc_new _ _
 have k1:W.heap[W1.heap.size]?=some (.cells #[.int .u8 11,.int .i64 xty,.int .i64 xa1,.int .i64 xb1,.int .i64 xn1,.slice aa an ac,.slice ra rn rc] 31 (0,0)):=by rw [hW];exact TyD.alloc_new _ _
 have k2:W.heap[w.heap.size]?=some (.cells #[vt,vf0] 27 (0,0)):=(hb2.block _ (Array.getElem?_eq_some_iff.1 k0).1).trans k0
 have hbW:Below w.heap.size w W:=hb1.trans (hb2.mono hb1.size)
 have HP:=hid (hp0.below hbW)
 have HLI:=hid (hl.below hbW)
 have hfW:=hf.below fnStays hbW
 obtain ⟨ta,tc,rfl⟩:=ht.slice
 obtain ⟨fa,fc,rfl,_⟩:=hf.slice
 obtain ⟨la,lc,rfl,_⟩:=ints_slice hl
 rw [hs1] at k1
 have l0:∀ w',Aft W w'→w'.cell? ⟨w.heap.size,0,none⟩=some (.slice ta p.types.length tc):=later_cells k2 0 _ rfl
 have l1:∀ w',Aft W w'→w'.cell? ⟨w.heap.size,1,none⟩=some (.slice fa p.funcs.length fc):=later_cells k2 1 _ rfl
 have m0:∀ w',Aft W w'→w'.cell? ⟨w.heap.size+1,0,none⟩=some (.int .u8 11):=later_cells k1 0 _ rfl
 have m1:∀ w',Aft W w'→w'.cell? ⟨w.heap.size+1,1,none⟩=some (.int .i64 xty):=later_cells k1 1 _ rfl
 have m2:∀ w',Aft W w'→w'.cell? ⟨w.heap.size+1,2,none⟩=some (.int .i64 xa1):=later_cells k1 2 _ rfl
 have m3:∀ w',Aft W w'→w'.cell? ⟨w.heap.size+1,3,none⟩=some (.int .i64 xb1):=later_cells k1 3 _ rfl
 have m4:∀ w',Aft W w'→w'.cell? ⟨w.heap.size+1,4,none⟩=some (.int .i64 xn1):=later_cells k1 4 _ rfl
 have m5:∀ w',Aft W w'→w'.cell? ⟨w.heap.size+1,5,none⟩=some (.slice aa an ac):=later_cells k1 5 _ rfl
 have m6:∀ w',Aft W w'→w'.cell? ⟨w.heap.size+1,6,none⟩=some (.slice ra rn rc):=later_cells k1 6 _ rfl
 have HBW:=hid hbW
 have HW1:=hid hW1
 have HW:=hid hW
 have h0:=Aft.refl W
 have h0d:=h0.drew
 have HM:Hid (typedB p ⟨11,xty,xa1,xb1,xn1,xar,xfr⟩ l=(isK p.types xty 2)):=by show _=_;first | rfl | simp [typedB]
 clear hp0 ht hf hl hW1 hW hb1 hb2 hs1 k0 k1 k2 hbW
 have HI:=hid (fun wx (h:Aft W wx)=>is_calls p (xty) 2 _ wx (HP.out.below h.below) hty)
 generalize isK p.types xty 2=b1 at *
 clear hfW HLI HP hty
 generalize typedB p ⟨11,xty,xa1,xb1,xn1,xar,xfr⟩ l=ans at *
 generalize p.types.length=q1 at *
 generalize p.funcs.length=q2 at *
 generalize l.length=q3 at *
 go_enter Tryz.func128,Tryz.ntmps128
 go_upto_region 1 with fail
 rw [← HW1.out,← HW.out]
 clear HW1 HW
 go_wp2_with fail
 refine (HI.out _ h0).mono ?_
 rintro e w2 ⟨rfl,hb2⟩
 clear HI
 go_wp2
 go_ret
 exact ⟨by rw [HM.out];first | done | rfl,(h0.go hb2).out HBW.out⟩

theorem typed12_of (p:Px) (xty xa1 xb1 xn1:Int) (xar xfr:List Int) (aa:Option Addr) (an ac:Nat) (ra:Option Addr) (rn rc:Nat) (l:List Int) (v vl:Value) (w:World) (hp:PrAt w v p) (hl:IntsAt w vl l) (hty:xty < p.types.length) :
  Calls Tryz.prog 128 #[v,.agg #[.int .u8 12,.int .i64 xty,.int .i64 xa1,.int .i64 xb1,.int .i64 xn1,.slice aa an ac,.slice ra rn rc],vl] w (BoolR (typedB p ⟨12,xty,xa1,xb1,xn1,xar,xfr⟩ l) w):=by
 have hp0:=hp
 obtain ⟨vt,vf0,rfl,ht,hf⟩:=hp
 obtain ⟨W1,hW1⟩:∃ W1,W1=w.alloc (.cells #[vt,vf0] 27):=⟨_,rfl⟩
 obtain ⟨W,hW⟩:∃ W,W=W1.alloc (.cells #[.int .u8 12,.int .i64 xty,.int .i64 xa1,.int .i64 xb1,.int .i64 xn1,.slice aa an ac,.slice ra rn rc] 31):=⟨_,rfl⟩
 have hb1:Below w.heap.size w W1:=by rw [hW1];exact alloc_below _ _
 have hs1:W1.heap.size=w.heap.size+1:=by rw [hW1];simp
 have hb2:Below W1.heap.size W1 W:=by rw [hW];exact alloc_below _ _
 have k0:W1.heap[w.heap.size]?=some (.cells #[vt,vf0] 27 (0,0)):=by rw [hW1];exact alloc_new _ _
 have k1:W.heap[W1.heap.size]?=some (.cells #[.int .u8 12,.int .i64 xty,.int .i64 xa1,.int .i64 xb1,.int .i64 xn1,.slice aa an ac,.slice ra rn rc] 31 (0,0)):=by rw [hW];exact TyD.alloc_new _ _
 have k2:W.heap[w.heap.size]?=some (.cells #[vt,vf0] 27 (0,0)):=(hb2.block _ (Array.getElem?_eq_some_iff.1 k0).1).trans k0
 have hbW:Below w.heap.size w W:=hb1.trans (hb2.mono hb1.size)
 have HP:=hid (hp0.below hbW)
 have HLI:=hid (hl.below hbW)
 have hfW:=hf.below fnStays hbW
 obtain ⟨ta,tc,rfl⟩:=ht.slice
 obtain ⟨fa,fc,rfl,_⟩:=hf.slice
 obtain ⟨la,lc,rfl,_⟩:=ints_slice hl
 rw [hs1] at k1
 have l0:∀ w',Aft W w'→w'.cell? ⟨w.heap.size,0,none⟩=some (.slice ta p.types.length tc):=later_cells k2 0 _ rfl
 have l1:∀ w',Aft W w'→w'.cell? ⟨w.heap.size,1,none⟩=some (.slice fa p.funcs.length fc):=later_cells k2 1 _ rfl
 have m0:∀ w',Aft W w'→w'.cell? ⟨w.heap.size+1,0,none⟩=some (.int .u8 12):=later_cells k1 0 _ rfl
 have m1:∀ w',Aft W w'→w'.cell? ⟨w.heap.size+1,1,none⟩=some (.int .i64 xty):=later_cells k1 1 _ rfl
 have m2:∀ w',Aft W w'→w'.cell? ⟨w.heap.size+1,2,none⟩=some (.int .i64 xa1):=later_cells k1 2 _ rfl
 have m3:∀ w',Aft W w'→w'.cell? ⟨w.heap.size+1,3,none⟩=some (.int .i64 xb1):=later_cells k1 3 _ rfl
 have m4:∀ w',Aft W w'→w'.cell? ⟨w.heap.size+1,4,none⟩=some (.int .i64 xn1):=later_cells k1 4 _ rfl
 have m5:∀ w',Aft W w'→w'.cell? ⟨w.heap.size+1,5,none⟩=some (.slice aa an ac):=later_cells k1 5 _ rfl
 have m6:∀ w',Aft W w'→w'.cell? ⟨w.heap.size+1,6,none⟩=some (.slice ra rn rc):=later_cells k1 6 _ rfl
 have HBW:=hid hbW
 have HW1:=hid hW1
 have HW:=hid hW
 have h0:=Aft.refl W
 have h0d:=h0.drew
 have HM:Hid (typedB p ⟨12,xty,xa1,xb1,xn1,xar,xfr⟩ l=(isK p.types xty 2)):=by show _=_;first | rfl | simp [typedB]
 clear hp0 ht hf hl hW1 hW hb1 hb2 hs1 k0 k1 k2 hbW
 have HI:=hid (fun wx (h:Aft W wx)=>is_calls p (xty) 2 _ wx (HP.out.below h.below) hty)
 generalize isK p.types xty 2=b1 at *
 clear hfW HLI HP hty
 generalize typedB p ⟨12,xty,xa1,xb1,xn1,xar,xfr⟩ l=ans at *
 generalize p.types.length=q1 at *
 generalize p.funcs.length=q2 at *
 generalize l.length=q3 at *
 go_enter Tryz.func128,Tryz.ntmps128
 go_upto_region 1 with fail
 rw [← HW1.out,← HW.out]
 clear HW1 HW
 go_wp2_with fail
 refine (HI.out _ h0).mono ?_
 rintro e w2 ⟨rfl,hb2⟩
 clear HI
 go_wp2
 go_ret
 exact ⟨by rw [HM.out];first | done | rfl,(h0.go hb2).out HBW.out⟩

theorem typed2_of (p:Px) (xty xa1 xb1 xn1:Int) (xar xfr:List Int) (aa:Option Addr) (an ac:Nat) (ra:Option Addr) (rn rc:Nat) (l:List Int) (v vl:Value) (w:World) (hp:PrAt w v p) (hl:IntsAt w vl l) (hty:xty < p.types.length) :
  Calls Tryz.prog 128 #[v,.agg #[.int .u8 2,.int .i64 xty,.int .i64 xa1,.int .i64 xb1,.int .i64 xn1,.slice aa an ac,.slice ra rn rc],vl] w (BoolR (typedB p ⟨2,xty,xa1,xb1,xn1,xar,xfr⟩ l) w):=by
 have hp0:=hp
 obtain ⟨vt,vf0,rfl,ht,hf⟩:=hp
 obtain ⟨W1,hW1⟩:∃ W1,W1=w.alloc (.cells #[vt,vf0] 27):=⟨_,rfl⟩
 obtain ⟨W,hW⟩:∃ W,W=W1.alloc (.cells #[.int .u8 2,.int .i64 xty,.int .i64 xa1,.int .i64 xb1,.int .i64 xn1,.slice aa an ac,.slice ra rn rc] 31):=⟨_,rfl⟩
 have hb1:Below w.heap.size w W1:=by rw [hW1];exact alloc_below _ _
 have hs1:W1.heap.size=w.heap.size+1:=by rw [hW1];simp
 have hb2:Below W1.heap.size W1 W:=by rw [hW];exact alloc_below _ _
 have k0:W1.heap[w.heap.size]?=some (.cells #[vt,vf0] 27 (0,0)):=by rw [hW1];exact alloc_new _ _
 have k1:W.heap[W1.heap.size]?=some (.cells #[.int .u8 2,.int .i64 xty,.int .i64 xa1,.int .i64 xb1,.int .i64 xn1,.slice aa an ac,.slice ra rn rc] 31 (0,0)):=by rw [hW];exact TyD.alloc_new _ _
 have k2:W.heap[w.heap.size]?=some (.cells #[vt,vf0] 27 (0,0)):=(hb2.block _ (Array.getElem?_eq_some_iff.1 k0).1).trans k0
 have hbW:Below w.heap.size w W:=hb1.trans (hb2.mono hb1.size)
 have HP:=hid (hp0.below hbW)
 have HLI:=hid (hl.below hbW)
 have hfW:=hf.below fnStays hbW
 obtain ⟨ta,tc,rfl⟩:=ht.slice
 obtain ⟨fa,fc,rfl,_⟩:=hf.slice
 obtain ⟨la,lc,rfl,_⟩:=ints_slice hl
 rw [hs1] at k1
 have l0:∀ w',Aft W w'→w'.cell? ⟨w.heap.size,0,none⟩=some (.slice ta p.types.length tc):=later_cells k2 0 _ rfl
 have l1:∀ w',Aft W w'→w'.cell? ⟨w.heap.size,1,none⟩=some (.slice fa p.funcs.length fc):=later_cells k2 1 _ rfl
 have m0:∀ w',Aft W w'→w'.cell? ⟨w.heap.size+1,0,none⟩=some (.int .u8 2):=later_cells k1 0 _ rfl
 have m1:∀ w',Aft W w'→w'.cell? ⟨w.heap.size+1,1,none⟩=some (.int .i64 xty):=later_cells k1 1 _ rfl
 have m2:∀ w',Aft W w'→w'.cell? ⟨w.heap.size+1,2,none⟩=some (.int .i64 xa1):=later_cells k1 2 _ rfl
 have m3:∀ w',Aft W w'→w'.cell? ⟨w.heap.size+1,3,none⟩=some (.int .i64 xb1):=later_cells k1 3 _ rfl
 have m4:∀ w',Aft W w'→w'.cell? ⟨w.heap.size+1,4,none⟩=some (.int .i64 xn1):=later_cells k1 4 _ rfl
 have m5:∀ w',Aft W w'→w'.cell? ⟨w.heap.size+1,5,none⟩=some (.slice aa an ac):=later_cells k1 5 _ rfl
 have m6:∀ w',Aft W w'→w'.cell? ⟨w.heap.size+1,6,none⟩=some (.slice ra rn rc):=later_cells k1 6 _ rfl
 have HBW:=hid hbW
 have HW1:=hid hW1
 have HW:=hid hW
 have h0:=Aft.refl W
 have h0d:=h0.drew
 have HM:Hid (typedB p ⟨2,xty,xa1,xb1,xn1,xar,xfr⟩ l=(isK p.types xty 2 || isK p.types xty 3)):=by show _=_;first | rfl | simp [typedB]
 clear hp0 ht hf hl hW1 hW hb1 hb2 hs1 k0 k1 k2 hbW
 have HI:=hid (fun wx (h:Aft W wx)=>is_calls p (xty) 2 _ wx (HP.out.below h.below) hty)
 have HJ:=hid (fun wx (h:Aft W wx)=>is_calls p (xty) 3 _ wx (HP.out.below h.below) hty)
 clear hfW HLI HP hty
 generalize isK p.types xty 3=b2 at *
 generalize isK p.types xty 2=b1 at *
 generalize typedB p ⟨2,xty,xa1,xb1,xn1,xar,xfr⟩ l=ans at *
 generalize p.types.length=q1 at *
 generalize p.funcs.length=q2 at *
 generalize l.length=q3 at *
 go_enter Tryz.func128,Tryz.ntmps128
 go_upto_region 1 with fail
 rw [← HW1.out,← HW.out]
 clear HW1 HW
 go_wp2_with fail
 refine (HI.out _ h0).mono ?_
 rintro e w2 ⟨rfl,hb2⟩
 have h2:=h0.go hb2
 clear HI
 cases b1
 ·go_wp2_with fail
  refine (HJ.out _ h2).mono ?_
  rintro e w3 ⟨rfl,hb3⟩
  clear HJ
  go_wp2
  go_ret
  exact ⟨by rw [HM.out];first | done | rfl,(h2.go hb3).out HBW.out⟩
 ·go_wp2
  go_ret
  exact ⟨by rw [HM.out];first | done | rfl,h2.out HBW.out⟩

theorem typed13_of (p:Px) (xty xa1 xb1 xn1:Int) (xar xfr:List Int) (aa:Option Addr) (an ac:Nat) (ra:Option Addr) (rn rc:Nat) (l:List Int) (v vl:Value) (w:World) (hp:PrAt w v p) (hl:IntsAt w vl l) (hl0:0 < l.length) (hlt:∀ n∈l,n < p.types.length) :
  Calls Tryz.prog 128 #[v,.agg #[.int .u8 13,.int .i64 xty,.int .i64 xa1,.int .i64 xb1,.int .i64 xn1,.slice aa an ac,.slice ra rn rc],vl] w (BoolR (typedB p ⟨13,xty,xa1,xb1,xn1,xar,xfr⟩ l) w):=by
 have hp0:=hp
 obtain ⟨vt,vf0,rfl,ht,hf⟩:=hp
 obtain ⟨W1,hW1⟩:∃ W1,W1=w.alloc (.cells #[vt,vf0] 27):=⟨_,rfl⟩
 obtain ⟨W,hW⟩:∃ W,W=W1.alloc (.cells #[.int .u8 13,.int .i64 xty,.int .i64 xa1,.int .i64 xb1,.int .i64 xn1,.slice aa an ac,.slice ra rn rc] 31):=⟨_,rfl⟩
 have hb1:Below w.heap.size w W1:=by rw [hW1];exact alloc_below _ _
 have hs1:W1.heap.size=w.heap.size+1:=by rw [hW1];simp
 have hb2:Below W1.heap.size W1 W:=by rw [hW];exact alloc_below _ _
 have k0:W1.heap[w.heap.size]?=some (.cells #[vt,vf0] 27 (0,0)):=by rw [hW1];exact alloc_new _ _
 have k1:W.heap[W1.heap.size]?=some (.cells #[.int .u8 13,.int .i64 xty,.int .i64 xa1,.int .i64 xb1,.int .i64 xn1,.slice aa an ac,.slice ra rn rc] 31 (0,0)):=by rw [hW];exact TyD.alloc_new _ _
 have k2:W.heap[w.heap.size]?=some (.cells #[vt,vf0] 27 (0,0)):=(hb2.block _ (Array.getElem?_eq_some_iff.1 k0).1).trans k0
 have hbW:Below w.heap.size w W:=hb1.trans (hb2.mono hb1.size)
 have HP:=hid (hp0.below hbW)
 have HLI:=hid (hl.below hbW)
 have hfW:=hf.below fnStays hbW
 obtain ⟨ta,tc,rfl⟩:=ht.slice
 obtain ⟨fa,fc,rfl,_⟩:=hf.slice
 obtain ⟨la,lc,rfl,_⟩:=ints_slice hl
 rw [hs1] at k1
 have l0:∀ w',Aft W w'→w'.cell? ⟨w.heap.size,0,none⟩=some (.slice ta p.types.length tc):=later_cells k2 0 _ rfl
 have l1:∀ w',Aft W w'→w'.cell? ⟨w.heap.size,1,none⟩=some (.slice fa p.funcs.length fc):=later_cells k2 1 _ rfl
 have m0:∀ w',Aft W w'→w'.cell? ⟨w.heap.size+1,0,none⟩=some (.int .u8 13):=later_cells k1 0 _ rfl
 have m1:∀ w',Aft W w'→w'.cell? ⟨w.heap.size+1,1,none⟩=some (.int .i64 xty):=later_cells k1 1 _ rfl
 have m2:∀ w',Aft W w'→w'.cell? ⟨w.heap.size+1,2,none⟩=some (.int .i64 xa1):=later_cells k1 2 _ rfl
 have m3:∀ w',Aft W w'→w'.cell? ⟨w.heap.size+1,3,none⟩=some (.int .i64 xb1):=later_cells k1 3 _ rfl
 have m4:∀ w',Aft W w'→w'.cell? ⟨w.heap.size+1,4,none⟩=some (.int .i64 xn1):=later_cells k1 4 _ rfl
 have m5:∀ w',Aft W w'→w'.cell? ⟨w.heap.size+1,5,none⟩=some (.slice aa an ac):=later_cells k1 5 _ rfl
 have m6:∀ w',Aft W w'→w'.cell? ⟨w.heap.size+1,6,none⟩=some (.slice ra rn rc):=later_cells k1 6 _ rfl
 have HBW:=hid hbW
 have HW1:=hid hW1
 have HW:=hid hW
 have h0:=Aft.refl W
 have h0d:=h0.drew
 have HM:Hid (typedB p ⟨13,xty,xa1,xb1,xn1,xar,xfr⟩ l=(isK p.types (l.getD 0 0) 2)):=by show _=_;first | rfl | simp [typedB]
 clear hp0 ht hf hl hW1 hW hb1 hb2 hs1 k0 k1 k2 hbW
 obtain ⟨lb,lo,rfl,c0⟩:=int_at HLI.out (getD_at hl0)
 have hm0:=hlt _ (List.mem_of_getElem? (getD_at hl0))
 have n0:=later c0
 rw [Nat.add_zero] at n0
 have hl0i:(0:Int) < (l.length:Int):=by omega
 have HI:=hid (fun wx (h:Aft W wx)=>is_calls p (l.getD 0 0) 2 _ wx (HP.out.below h.below) hm0)
 clear hfW HLI HP hlt c0 hm0
 generalize isK p.types (l.getD 0 0) 2=b1 at *
 generalize l.getD 0 0=u0 at *
 generalize typedB p ⟨13,xty,xa1,xb1,xn1,xar,xfr⟩ l=ans at *
 generalize p.types.length=q1 at *
 generalize p.funcs.length=q2 at *
 generalize l.length=q3 at *
 go_enter Tryz.func128,Tryz.ntmps128
 go_upto_region 1 with fail
 rw [← HW1.out,← HW.out]
 clear HW1 HW
 go_wp2_with fail
 go_region_held3 (fun w'=>Aft W w') (first | exact h0d.go hb2 | exact h0d)
  ((go_at_call 37;(with_reducible refine (HI.out _ h0d).mono ?_);rintro e w2 ⟨rfl,hb2⟩))
 all_goals
  go_wp2
  go_ret
  exact ⟨by rw [HM.out];first | done | rfl,(h0d.go hb2).out HBW.out⟩

theorem typed21_of (p:Px) (xty xa1 xb1 xn1:Int) (xar xfr:List Int) (aa:Option Addr) (an ac:Nat) (ra:Option Addr) (rn rc:Nat) (l:List Int) (v vl:Value) (w:World) (hp:PrAt w v p) (hl:IntsAt w vl l) (hl0:0 < l.length) (hlt:∀ n∈l,n < p.types.length) :
  Calls Tryz.prog 128 #[v,.agg #[.int .u8 21,.int .i64 xty,.int .i64 xa1,.int .i64 xb1,.int .i64 xn1,.slice aa an ac,.slice ra rn rc],vl] w (BoolR (typedB p ⟨21,xty,xa1,xb1,xn1,xar,xfr⟩ l) w):=by
 have hp0:=hp
 obtain ⟨vt,vf0,rfl,ht,hf⟩:=hp
 obtain ⟨W1,hW1⟩:∃ W1,W1=w.alloc (.cells #[vt,vf0] 27):=⟨_,rfl⟩
 obtain ⟨W,hW⟩:∃ W,W=W1.alloc (.cells #[.int .u8 21,.int .i64 xty,.int .i64 xa1,.int .i64 xb1,.int .i64 xn1,.slice aa an ac,.slice ra rn rc] 31):=⟨_,rfl⟩
 have hb1:Below w.heap.size w W1:=by rw [hW1];exact alloc_below _ _
 have hs1:W1.heap.size=w.heap.size+1:=by rw [hW1];simp
 have hb2:Below W1.heap.size W1 W:=by rw [hW];exact alloc_below _ _
 have k0:W1.heap[w.heap.size]?=some (.cells #[vt,vf0] 27 (0,0)):=by rw [hW1];exact alloc_new _ _
 have k1:W.heap[W1.heap.size]?=some (.cells #[.int .u8 21,.int .i64 xty,.int .i64 xa1,.int .i64 xb1,.int .i64 xn1,.slice aa an ac,.slice ra rn rc] 31 (0,0)):=by rw [hW];exact TyD.alloc_new _ _
 have k2:W.heap[w.heap.size]?=some (.cells #[vt,vf0] 27 (0,0)):=(hb2.block _ (Array.getElem?_eq_some_iff.1 k0).1).trans k0
 have hbW:Below w.heap.size w W:=hb1.trans (hb2.mono hb1.size)
 have HP:=hid (hp0.below hbW)
 have HLI:=hid (hl.below hbW)
 have hfW:=hf.below fnStays hbW
 obtain ⟨ta,tc,rfl⟩:=ht.slice
 obtain ⟨fa,fc,rfl,_⟩:=hf.slice
 obtain ⟨la,lc,rfl,_⟩:=ints_slice hl
 rw [hs1] at k1
 have l0:∀ w',Aft W w'→w'.cell? ⟨w.heap.size,0,none⟩=some (.slice ta p.types.length tc):=later_cells k2 0 _ rfl
 have l1:∀ w',Aft W w'→w'.cell? ⟨w.heap.size,1,none⟩=some (.slice fa p.funcs.length fc):=later_cells k2 1 _ rfl
 have m0:∀ w',Aft W w'→w'.cell? ⟨w.heap.size+1,0,none⟩=some (.int .u8 21):=later_cells k1 0 _ rfl
 have m1:∀ w',Aft W w'→w'.cell? ⟨w.heap.size+1,1,none⟩=some (.int .i64 xty):=later_cells k1 1 _ rfl
 have m2:∀ w',Aft W w'→w'.cell? ⟨w.heap.size+1,2,none⟩=some (.int .i64 xa1):=later_cells k1 2 _ rfl
 have m3:∀ w',Aft W w'→w'.cell? ⟨w.heap.size+1,3,none⟩=some (.int .i64 xb1):=later_cells k1 3 _ rfl
 have m4:∀ w',Aft W w'→w'.cell? ⟨w.heap.size+1,4,none⟩=some (.int .i64 xn1):=later_cells k1 4 _ rfl
 have m5:∀ w',Aft W w'→w'.cell? ⟨w.heap.size+1,5,none⟩=some (.slice aa an ac):=later_cells k1 5 _ rfl
 have m6:∀ w',Aft W w'→w'.cell? ⟨w.heap.size+1,6,none⟩=some (.slice ra rn rc):=later_cells k1 6 _ rfl
 have HBW:=hid hbW
 have HW1:=hid hW1
 have HW:=hid hW
 have h0:=Aft.refl W
 have h0d:=h0.drew
 have HM:Hid (typedB p ⟨21,xty,xa1,xb1,xn1,xar,xfr⟩ l=(isK p.types (l.getD 0 0) 1)):=by show _=_;first | rfl | simp [typedB]
 clear hp0 ht hf hl hW1 hW hb1 hb2 hs1 k0 k1 k2 hbW
 obtain ⟨lb,lo,rfl,c0⟩:=int_at HLI.out (getD_at hl0)
 have hm0:=hlt _ (List.mem_of_getElem? (getD_at hl0))
 have n0:=later c0
 rw [Nat.add_zero] at n0
 have hl0i:(0:Int) < (l.length:Int):=by omega
 have HI:=hid (fun wx (h:Aft W wx)=>is_calls p (l.getD 0 0) 1 _ wx (HP.out.below h.below) hm0)
 clear hfW HLI HP hlt c0 hm0
 generalize isK p.types (l.getD 0 0) 1=b1 at *
 generalize l.getD 0 0=u0 at *
 generalize typedB p ⟨21,xty,xa1,xb1,xn1,xar,xfr⟩ l=ans at *
 generalize p.types.length=q1 at *
 generalize p.funcs.length=q2 at *
 generalize l.length=q3 at *
 go_enter Tryz.func128,Tryz.ntmps128
 go_upto_region 1 with fail
 rw [← HW1.out,← HW.out]
 clear HW1 HW
 go_wp2_with fail
 go_region_held3 (fun w'=>Aft W w') (first | exact h0d.go hb2 | exact h0d)
  ((go_at_call 37;(with_reducible refine (HI.out _ h0d).mono ?_);rintro e w2 ⟨rfl,hb2⟩))
 all_goals
  go_wp2
  go_ret
  exact ⟨by rw [HM.out];first | done | rfl,(h0d.go hb2).out HBW.out⟩

theorem typed14_of (p:Px) (xty xa1 xb1 xn1:Int) (xar xfr:List Int) (aa:Option Addr) (an ac:Nat) (ra:Option Addr) (rn rc:Nat) (l:List Int) (v vl:Value) (w:World) (hp:PrAt w v p) (hl:IntsAt w vl l) (hl0:0 < l.length) (hlt:∀ n∈l,n < p.types.length) (hty:xty < p.types.length) (hc:chkT p.types=0) :
  Calls Tryz.prog 128 #[v,.agg #[.int .u8 14,.int .i64 xty,.int .i64 xa1,.int .i64 xb1,.int .i64 xn1,.slice aa an ac,.slice ra rn rc],vl] w (BoolR (typedB p ⟨14,xty,xa1,xb1,xn1,xar,xfr⟩ l) w):=by
 have hp0:=hp
 obtain ⟨vt,vf0,rfl,ht,hf⟩:=hp
 obtain ⟨W1,hW1⟩:∃ W1,W1=w.alloc (.cells #[vt,vf0] 27):=⟨_,rfl⟩
 obtain ⟨W,hW⟩:∃ W,W=W1.alloc (.cells #[.int .u8 14,.int .i64 xty,.int .i64 xa1,.int .i64 xb1,.int .i64 xn1,.slice aa an ac,.slice ra rn rc] 31):=⟨_,rfl⟩
 have hb1:Below w.heap.size w W1:=by rw [hW1];exact alloc_below _ _
 have hs1:W1.heap.size=w.heap.size+1:=by rw [hW1];simp
 have hb2:Below W1.heap.size W1 W:=by rw [hW];exact alloc_below _ _
 have k0:W1.heap[w.heap.size]?=some (.cells #[vt,vf0] 27 (0,0)):=by rw [hW1];exact alloc_new _ _
 have k1:W.heap[W1.heap.size]?=some (.cells #[.int .u8 14,.int .i64 xty,.int .i64 xa1,.int .i64 xb1,.int .i64 xn1,.slice aa an ac,.slice ra rn rc] 31 (0,0)):=by rw [hW];exact TyD.alloc_new _ _
 have k2:W.heap[w.heap.size]?=some (.cells #[vt,vf0] 27 (0,0)):=(hb2.block _ (Array.getElem?_eq_some_iff.1 k0).1).trans k0
 have hbW:Below w.heap.size w W:=hb1.trans (hb2.mono hb1.size)
 have HP:=hid (hp0.below hbW)
 have HLI:=hid (hl.below hbW)
 have hfW:=hf.below fnStays hbW
 obtain ⟨ta,tc,rfl⟩:=ht.slice
 obtain ⟨fa,fc,rfl,_⟩:=hf.slice
 obtain ⟨la,lc,rfl,_⟩:=ints_slice hl
 rw [hs1] at k1
 have l0:∀ w',Aft W w'→w'.cell? ⟨w.heap.size,0,none⟩=some (.slice ta p.types.length tc):=later_cells k2 0 _ rfl
 have l1:∀ w',Aft W w'→w'.cell? ⟨w.heap.size,1,none⟩=some (.slice fa p.funcs.length fc):=later_cells k2 1 _ rfl
 have m0:∀ w',Aft W w'→w'.cell? ⟨w.heap.size+1,0,none⟩=some (.int .u8 14):=later_cells k1 0 _ rfl
 have m1:∀ w',Aft W w'→w'.cell? ⟨w.heap.size+1,1,none⟩=some (.int .i64 xty):=later_cells k1 1 _ rfl
 have m2:∀ w',Aft W w'→w'.cell? ⟨w.heap.size+1,2,none⟩=some (.int .i64 xa1):=later_cells k1 2 _ rfl
 have m3:∀ w',Aft W w'→w'.cell? ⟨w.heap.size+1,3,none⟩=some (.int .i64 xb1):=later_cells k1 3 _ rfl
 have m4:∀ w',Aft W w'→w'.cell? ⟨w.heap.size+1,4,none⟩=some (.int .i64 xn1):=later_cells k1 4 _ rfl
 have m5:∀ w',Aft W w'→w'.cell? ⟨w.heap.size+1,5,none⟩=some (.slice aa an ac):=later_cells k1 5 _ rfl
 have m6:∀ w',Aft W w'→w'.cell? ⟨w.heap.size+1,6,none⟩=some (.slice ra rn rc):=later_cells k1 6 _ rfl
 have HBW:=hid hbW
 have HW1:=hid hW1
 have HW:=hid hW
 have h0:=Aft.refl W
 have h0d:=h0.drew
 have HM:Hid (typedB p ⟨14,xty,xa1,xb1,xn1,xar,xfr⟩ l=(memB p.types ⟨14,xty,xa1,xb1,xn1,xar,xfr⟩ l)):=by show _=_;first | rfl | simp [typedB]
 clear hp0 ht hf hl hW1 hW hb1 hb2 hs1 k0 k1 k2 hbW
 have HI:=hid (fun wx (h:Aft W wx)=>memory_calls p ⟨14,xty,xa1,xb1,xn1,xar,xfr⟩ (.slice aa an ac) (.slice ra rn rc) l _ (.slice la l.length lc) wx (HP.out.below h.below) hc ⟨_,_,_,rfl⟩ ⟨_,_,_,rfl⟩ (HLI.out.below h.below) hl0 (fun h=>absurd (show (14:Int)=15∨(14:Int)=17 from h) (by decide)) hlt hty ⟨show (14:Int)≤14 by decide,show (14:Int)≤17 by decide⟩)
 clear hfW HLI HP hlt hty hc hl0
 simp only [ixV] at HI
 generalize memB p.types ⟨14,xty,xa1,xb1,xn1,xar,xfr⟩ l=b1 at *
 generalize typedB p ⟨14,xty,xa1,xb1,xn1,xar,xfr⟩ l=ans at *
 generalize p.types.length=q1 at *
 generalize p.funcs.length=q2 at *
 generalize l.length=q3 at *
 go_enter Tryz.func128,Tryz.ntmps128
 go_upto_region 1 with fail
 rw [← HW1.out,← HW.out]
 clear HW1 HW
 go_wp2_with fail
 refine (HI.out _ h0).mono ?_
 rintro e w2 ⟨rfl,hb2⟩
 clear HI
 go_wp2
 go_ret
 exact ⟨by rw [HM.out];first | done | rfl,(h0.go hb2).out HBW.out⟩

theorem typed15_of (p:Px) (xty xa1 xb1 xn1:Int) (xar xfr:List Int) (aa:Option Addr) (an ac:Nat) (ra:Option Addr) (rn rc:Nat) (l:List Int) (v vl:Value) (w:World) (hp:PrAt w v p) (hl:IntsAt w vl l) (hl1:1 < l.length) (hlt:∀ n∈l,n < p.types.length) (hty:xty < p.types.length) (hc:chkT p.types=0) :
  Calls Tryz.prog 128 #[v,.agg #[.int .u8 15,.int .i64 xty,.int .i64 xa1,.int .i64 xb1,.int .i64 xn1,.slice aa an ac,.slice ra rn rc],vl] w (BoolR (typedB p ⟨15,xty,xa1,xb1,xn1,xar,xfr⟩ l) w):=by
 have hp0:=hp
 obtain ⟨vt,vf0,rfl,ht,hf⟩:=hp
 obtain ⟨W1,hW1⟩:∃ W1,W1=w.alloc (.cells #[vt,vf0] 27):=⟨_,rfl⟩
 obtain ⟨W,hW⟩:∃ W,W=W1.alloc (.cells #[.int .u8 15,.int .i64 xty,.int .i64 xa1,.int .i64 xb1,.int .i64 xn1,.slice aa an ac,.slice ra rn rc] 31):=⟨_,rfl⟩
 have hb1:Below w.heap.size w W1:=by rw [hW1];exact alloc_below _ _
 have hs1:W1.heap.size=w.heap.size+1:=by rw [hW1];simp
 have hb2:Below W1.heap.size W1 W:=by rw [hW];exact alloc_below _ _
 have k0:W1.heap[w.heap.size]?=some (.cells #[vt,vf0] 27 (0,0)):=by rw [hW1];exact alloc_new _ _
 have k1:W.heap[W1.heap.size]?=some (.cells #[.int .u8 15,.int .i64 xty,.int .i64 xa1,.int .i64 xb1,.int .i64 xn1,.slice aa an ac,.slice ra rn rc] 31 (0,0)):=by rw [hW];exact TyD.alloc_new _ _
 have k2:W.heap[w.heap.size]?=some (.cells #[vt,vf0] 27 (0,0)):=(hb2.block _ (Array.getElem?_eq_some_iff.1 k0).1).trans k0
 have hbW:Below w.heap.size w W:=hb1.trans (hb2.mono hb1.size)
 have HP:=hid (hp0.below hbW)
 have HLI:=hid (hl.below hbW)
 have hfW:=hf.below fnStays hbW
 obtain ⟨ta,tc,rfl⟩:=ht.slice
 obtain ⟨fa,fc,rfl,_⟩:=hf.slice
 obtain ⟨la,lc,rfl,_⟩:=ints_slice hl
 rw [hs1] at k1
 have l0:∀ w',Aft W w'→w'.cell? ⟨w.heap.size,0,none⟩=some (.slice ta p.types.length tc):=later_cells k2 0 _ rfl
 have l1:∀ w',Aft W w'→w'.cell? ⟨w.heap.size,1,none⟩=some (.slice fa p.funcs.length fc):=later_cells k2 1 _ rfl
 have m0:∀ w',Aft W w'→w'.cell? ⟨w.heap.size+1,0,none⟩=some (.int .u8 15):=later_cells k1 0 _ rfl
 have m1:∀ w',Aft W w'→w'.cell? ⟨w.heap.size+1,1,none⟩=some (.int .i64 xty):=later_cells k1 1 _ rfl
 have m2:∀ w',Aft W w'→w'.cell? ⟨w.heap.size+1,2,none⟩=some (.int .i64 xa1):=later_cells k1 2 _ rfl
 have m3:∀ w',Aft W w'→w'.cell? ⟨w.heap.size+1,3,none⟩=some (.int .i64 xb1):=later_cells k1 3 _ rfl
 have m4:∀ w',Aft W w'→w'.cell? ⟨w.heap.size+1,4,none⟩=some (.int .i64 xn1):=later_cells k1 4 _ rfl
 have m5:∀ w',Aft W w'→w'.cell? ⟨w.heap.size+1,5,none⟩=some (.slice aa an ac):=later_cells k1 5 _ rfl
 have m6:∀ w',Aft W w'→w'.cell? ⟨w.heap.size+1,6,none⟩=some (.slice ra rn rc):=later_cells k1 6 _ rfl
 have HBW:=hid hbW
 have HW1:=hid hW1
 have HW:=hid hW
 have h0:=Aft.refl W
 have h0d:=h0.drew
 have HM:Hid (typedB p ⟨15,xty,xa1,xb1,xn1,xar,xfr⟩ l=(memB p.types ⟨15,xty,xa1,xb1,xn1,xar,xfr⟩ l)):=by show _=_;first | rfl | simp [typedB]
 clear hp0 ht hf hl hW1 hW hb1 hb2 hs1 k0 k1 k2 hbW
 have hl0:0 < l.length:=by omega
 have HI:=hid (fun wx (h:Aft W wx)=>memory_calls p ⟨15,xty,xa1,xb1,xn1,xar,xfr⟩ (.slice aa an ac) (.slice ra rn rc) l _ (.slice la l.length lc) wx (HP.out.below h.below) hc ⟨_,_,_,rfl⟩ ⟨_,_,_,rfl⟩ (HLI.out.below h.below) hl0 (fun _=>hl1) hlt hty ⟨show (14:Int)≤15 by decide,show (15:Int)≤17 by decide⟩)
 clear hfW HLI HP hlt hty hc hl0
 simp only [ixV] at HI
 generalize memB p.types ⟨15,xty,xa1,xb1,xn1,xar,xfr⟩ l=b1 at *
 generalize typedB p ⟨15,xty,xa1,xb1,xn1,xar,xfr⟩ l=ans at *
 generalize p.types.length=q1 at *
 generalize p.funcs.length=q2 at *
 generalize l.length=q3 at *
 go_enter Tryz.func128,Tryz.ntmps128
 go_upto_region 1 with fail
 rw [← HW1.out,← HW.out]
 clear HW1 HW
 go_wp2_with fail
 refine (HI.out _ h0).mono ?_
 rintro e w2 ⟨rfl,hb2⟩
 clear HI
 go_wp2
 go_ret
 exact ⟨by rw [HM.out];first | done | rfl,(h0.go hb2).out HBW.out⟩

theorem typed16_of (p:Px) (xty xa1 xb1 xn1:Int) (xar xfr:List Int) (aa:Option Addr) (an ac:Nat) (ra:Option Addr) (rn rc:Nat) (l:List Int) (v vl:Value) (w:World) (hp:PrAt w v p) (hl:IntsAt w vl l) (hl0:0 < l.length) (hlt:∀ n∈l,n < p.types.length) (hty:xty < p.types.length) (hc:chkT p.types=0) :
  Calls Tryz.prog 128 #[v,.agg #[.int .u8 16,.int .i64 xty,.int .i64 xa1,.int .i64 xb1,.int .i64 xn1,.slice aa an ac,.slice ra rn rc],vl] w (BoolR (typedB p ⟨16,xty,xa1,xb1,xn1,xar,xfr⟩ l) w):=by
 have hp0:=hp
 obtain ⟨vt,vf0,rfl,ht,hf⟩:=hp
 obtain ⟨W1,hW1⟩:∃ W1,W1=w.alloc (.cells #[vt,vf0] 27):=⟨_,rfl⟩
 obtain ⟨W,hW⟩:∃ W,W=W1.alloc (.cells #[.int .u8 16,.int .i64 xty,.int .i64 xa1,.int .i64 xb1,.int .i64 xn1,.slice aa an ac,.slice ra rn rc] 31):=⟨_,rfl⟩
 have hb1:Below w.heap.size w W1:=by rw [hW1];exact alloc_below _ _
 have hs1:W1.heap.size=w.heap.size+1:=by rw [hW1];simp
 have hb2:Below W1.heap.size W1 W:=by rw [hW];exact alloc_below _ _
 have k0:W1.heap[w.heap.size]?=some (.cells #[vt,vf0] 27 (0,0)):=by rw [hW1];exact alloc_new _ _
 have k1:W.heap[W1.heap.size]?=some (.cells #[.int .u8 16,.int .i64 xty,.int .i64 xa1,.int .i64 xb1,.int .i64 xn1,.slice aa an ac,.slice ra rn rc] 31 (0,0)):=by rw [hW];exact TyD.alloc_new _ _
 have k2:W.heap[w.heap.size]?=some (.cells #[vt,vf0] 27 (0,0)):=(hb2.block _ (Array.getElem?_eq_some_iff.1 k0).1).trans k0
 have hbW:Below w.heap.size w W:=hb1.trans (hb2.mono hb1.size)
 have HP:=hid (hp0.below hbW)
 have HLI:=hid (hl.below hbW)
 have hfW:=hf.below fnStays hbW
 obtain ⟨ta,tc,rfl⟩:=ht.slice
 obtain ⟨fa,fc,rfl,_⟩:=hf.slice
 obtain ⟨la,lc,rfl,_⟩:=ints_slice hl
 rw [hs1] at k1
 have l0:∀ w',Aft W w'→w'.cell? ⟨w.heap.size,0,none⟩=some (.slice ta p.types.length tc):=later_cells k2 0 _ rfl
 have l1:∀ w',Aft W w'→w'.cell? ⟨w.heap.size,1,none⟩=some (.slice fa p.funcs.length fc):=later_cells k2 1 _ rfl
 have m0:∀ w',Aft W w'→w'.cell? ⟨w.heap.size+1,0,none⟩=some (.int .u8 16):=later_cells k1 0 _ rfl
 have m1:∀ w',Aft W w'→w'.cell? ⟨w.heap.size+1,1,none⟩=some (.int .i64 xty):=later_cells k1 1 _ rfl
 have m2:∀ w',Aft W w'→w'.cell? ⟨w.heap.size+1,2,none⟩=some (.int .i64 xa1):=later_cells k1 2 _ rfl
 have m3:∀ w',Aft W w'→w'.cell? ⟨w.heap.size+1,3,none⟩=some (.int .i64 xb1):=later_cells k1 3 _ rfl
 have m4:∀ w',Aft W w'→w'.cell? ⟨w.heap.size+1,4,none⟩=some (.int .i64 xn1):=later_cells k1 4 _ rfl
 have m5:∀ w',Aft W w'→w'.cell? ⟨w.heap.size+1,5,none⟩=some (.slice aa an ac):=later_cells k1 5 _ rfl
 have m6:∀ w',Aft W w'→w'.cell? ⟨w.heap.size+1,6,none⟩=some (.slice ra rn rc):=later_cells k1 6 _ rfl
 have HBW:=hid hbW
 have HW1:=hid hW1
 have HW:=hid hW
 have h0:=Aft.refl W
 have h0d:=h0.drew
 have HM:Hid (typedB p ⟨16,xty,xa1,xb1,xn1,xar,xfr⟩ l=(memB p.types ⟨16,xty,xa1,xb1,xn1,xar,xfr⟩ l)):=by show _=_;first | rfl | simp [typedB]
 clear hp0 ht hf hl hW1 hW hb1 hb2 hs1 k0 k1 k2 hbW
 have HI:=hid (fun wx (h:Aft W wx)=>memory_calls p ⟨16,xty,xa1,xb1,xn1,xar,xfr⟩ (.slice aa an ac) (.slice ra rn rc) l _ (.slice la l.length lc) wx (HP.out.below h.below) hc ⟨_,_,_,rfl⟩ ⟨_,_,_,rfl⟩ (HLI.out.below h.below) hl0 (fun h=>absurd (show (16:Int)=15∨(16:Int)=17 from h) (by decide)) hlt hty ⟨show (14:Int)≤16 by decide,show (16:Int)≤17 by decide⟩)
 clear hfW HLI HP hlt hty hc hl0
 simp only [ixV] at HI
 generalize memB p.types ⟨16,xty,xa1,xb1,xn1,xar,xfr⟩ l=b1 at *
 generalize typedB p ⟨16,xty,xa1,xb1,xn1,xar,xfr⟩ l=ans at *
 generalize p.types.length=q1 at *
 generalize p.funcs.length=q2 at *
 generalize l.length=q3 at *
 go_enter Tryz.func128,Tryz.ntmps128
 go_upto_region 1 with fail
 rw [← HW1.out,← HW.out]
 clear HW1 HW
 go_wp2_with fail
 refine (HI.out _ h0).mono ?_
 rintro e w2 ⟨rfl,hb2⟩
 clear HI
 go_wp2
 go_ret
 exact ⟨by rw [HM.out];first | done | rfl,(h0.go hb2).out HBW.out⟩

theorem typed17_of (p:Px) (xty xa1 xb1 xn1:Int) (xar xfr:List Int) (aa:Option Addr) (an ac:Nat) (ra:Option Addr) (rn rc:Nat) (l:List Int) (v vl:Value) (w:World) (hp:PrAt w v p) (hl:IntsAt w vl l) (hl1:1 < l.length) (hlt:∀ n∈l,n < p.types.length) (hty:xty < p.types.length) (hc:chkT p.types=0) :
  Calls Tryz.prog 128 #[v,.agg #[.int .u8 17,.int .i64 xty,.int .i64 xa1,.int .i64 xb1,.int .i64 xn1,.slice aa an ac,.slice ra rn rc],vl] w (BoolR (typedB p ⟨17,xty,xa1,xb1,xn1,xar,xfr⟩ l) w):=by
 have hp0:=hp
 obtain ⟨vt,vf0,rfl,ht,hf⟩:=hp
 obtain ⟨W1,hW1⟩:∃ W1,W1=w.alloc (.cells #[vt,vf0] 27):=⟨_,rfl⟩
 obtain ⟨W,hW⟩:∃ W,W=W1.alloc (.cells #[.int .u8 17,.int .i64 xty,.int .i64 xa1,.int .i64 xb1,.int .i64 xn1,.slice aa an ac,.slice ra rn rc] 31):=⟨_,rfl⟩
 have hb1:Below w.heap.size w W1:=by rw [hW1];exact alloc_below _ _
 have hs1:W1.heap.size=w.heap.size+1:=by rw [hW1];simp
 have hb2:Below W1.heap.size W1 W:=by rw [hW];exact alloc_below _ _
 have k0:W1.heap[w.heap.size]?=some (.cells #[vt,vf0] 27 (0,0)):=by rw [hW1];exact alloc_new _ _
 have k1:W.heap[W1.heap.size]?=some (.cells #[.int .u8 17,.int .i64 xty,.int .i64 xa1,.int .i64 xb1,.int .i64 xn1,.slice aa an ac,.slice ra rn rc] 31 (0,0)):=by rw [hW];exact TyD.alloc_new _ _
 have k2:W.heap[w.heap.size]?=some (.cells #[vt,vf0] 27 (0,0)):=(hb2.block _ (Array.getElem?_eq_some_iff.1 k0).1).trans k0
 have hbW:Below w.heap.size w W:=hb1.trans (hb2.mono hb1.size)
 have HP:=hid (hp0.below hbW)
 have HLI:=hid (hl.below hbW)
 have hfW:=hf.below fnStays hbW
 obtain ⟨ta,tc,rfl⟩:=ht.slice
 obtain ⟨fa,fc,rfl,_⟩:=hf.slice
 obtain ⟨la,lc,rfl,_⟩:=ints_slice hl
 rw [hs1] at k1
 have l0:∀ w',Aft W w'→w'.cell? ⟨w.heap.size,0,none⟩=some (.slice ta p.types.length tc):=later_cells k2 0 _ rfl
 have l1:∀ w',Aft W w'→w'.cell? ⟨w.heap.size,1,none⟩=some (.slice fa p.funcs.length fc):=later_cells k2 1 _ rfl
 have m0:∀ w',Aft W w'→w'.cell? ⟨w.heap.size+1,0,none⟩=some (.int .u8 17):=later_cells k1 0 _ rfl
 have m1:∀ w',Aft W w'→w'.cell? ⟨w.heap.size+1,1,none⟩=some (.int .i64 xty):=later_cells k1 1 _ rfl
 have m2:∀ w',Aft W w'→w'.cell? ⟨w.heap.size+1,2,none⟩=some (.int .i64 xa1):=later_cells k1 2 _ rfl
 have m3:∀ w',Aft W w'→w'.cell? ⟨w.heap.size+1,3,none⟩=some (.int .i64 xb1):=later_cells k1 3 _ rfl
 have m4:∀ w',Aft W w'→w'.cell? ⟨w.heap.size+1,4,none⟩=some (.int .i64 xn1):=later_cells k1 4 _ rfl
 have m5:∀ w',Aft W w'→w'.cell? ⟨w.heap.size+1,5,none⟩=some (.slice aa an ac):=later_cells k1 5 _ rfl
 have m6:∀ w',Aft W w'→w'.cell? ⟨w.heap.size+1,6,none⟩=some (.slice ra rn rc):=later_cells k1 6 _ rfl
 have HBW:=hid hbW
 have HW1:=hid hW1
 have HW:=hid hW
 have h0:=Aft.refl W
 have h0d:=h0.drew
 have HM:Hid (typedB p ⟨17,xty,xa1,xb1,xn1,xar,xfr⟩ l=(memB p.types ⟨17,xty,xa1,xb1,xn1,xar,xfr⟩ l)):=by show _=_;first | rfl | simp [typedB]
 clear hp0 ht hf hl hW1 hW hb1 hb2 hs1 k0 k1 k2 hbW
 have hl0:0 < l.length:=by omega
 have HI:=hid (fun wx (h:Aft W wx)=>memory_calls p ⟨17,xty,xa1,xb1,xn1,xar,xfr⟩ (.slice aa an ac) (.slice ra rn rc) l _ (.slice la l.length lc) wx (HP.out.below h.below) hc ⟨_,_,_,rfl⟩ ⟨_,_,_,rfl⟩ (HLI.out.below h.below) hl0 (fun _=>hl1) hlt hty ⟨show (14:Int)≤17 by decide,show (17:Int)≤17 by decide⟩)
 clear hfW HLI HP hlt hty hc hl0
 simp only [ixV] at HI
 generalize memB p.types ⟨17,xty,xa1,xb1,xn1,xar,xfr⟩ l=b1 at *
 generalize typedB p ⟨17,xty,xa1,xb1,xn1,xar,xfr⟩ l=ans at *
 generalize p.types.length=q1 at *
 generalize p.funcs.length=q2 at *
 generalize l.length=q3 at *
 go_enter Tryz.func128,Tryz.ntmps128
 go_upto_region 1 with fail
 rw [← HW1.out,← HW.out]
 clear HW1 HW
 go_wp2_with fail
 refine (HI.out _ h0).mono ?_
 rintro e w2 ⟨rfl,hb2⟩
 clear HI
 go_wp2
 go_ret
 exact ⟨by rw [HM.out];first | done | rfl,(h0.go hb2).out HBW.out⟩
end Go.Proofs.YtpejpnffcepdlaaGreatDoor.SwV
