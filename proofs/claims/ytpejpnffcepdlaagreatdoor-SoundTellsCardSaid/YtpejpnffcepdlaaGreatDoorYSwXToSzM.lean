/- Walks over fescueref12.Typed, by the operation: 3 18 19 22. fescueref12.Typed. A walk over fescueref12.right. A walk over fescueref12.rightEnd. A walk over fescueref12.function. A walk over fescueref12.Check. DRAFT, not clean: a walk over fescueref12.Kind (its build ran past 400 s: HTY or a 'rfl' in it). Plain facts: registers' types as a list, what is set by rulers from one to the next, and what keeps a program from being well formed. -/
import Derived.Test.YtpejpnffcepdlaaGreatDoorYSvQToSwU
import Derived.Test.YtpejpnffcepdlaaGreatDoorYIntOToSwXd
import Derived.Test.YtpejpnffcepdlaaGreatDoorYShIToFvEU
import Derived.Deep.RegionHeld3
import Derived.Test.YtpejpnffcepdlaaGreatDoorYSwV
import Derived.Test.YtpejpnffcepdlaaGreatDoorYSwW
import Derived.Test.YtpejpnffcepdlaaGreatDoorYShBToShW
import Derived.Test.YtpejpnffcepdlaaGreatDoorYRgZToRgY
import Derived.Test.YtpejpnffcepdlaaGreatDoorYFvEToFdK
import Derived.Test.YtpejpnffcepdlaaGreatDoorYFePToSoM
import Derived.Deep.CutRange
set_option maxRecDepth 100000
set_option maxHeartbeats 16000000
namespace Go.Proofs.YtpejpnffcepdlaaGreatDoor.SwX
open Go.RowKit Go.Lib RwO SetP IntO TyM TyP TyB TyC TyRA TyRE ShM ShP ShA ShB ShC ShE ShRA ShH ShI ShJ ShRG Aft FwM FwC FwP FwQ FwR FvA FvB FdQ LvM SvQ SvP SwA SwM SwT RgZ IntG

theorem typed3_of (p:Px) (xty xa1 xb1 xn1:Int) (xar xfr:List Int) (aa:Option Addr) (an ac:Nat) (ra:Option Addr) (rn rc:Nat) (l:List Int) (v vl:Value) (w:World) (hp:PrAt w v p) (hl:IntsAt w vl l) (k:Nat) (y:Fx) (hk:xn1=k) (hy:Has1 p k k y) :
  Calls Tryz.prog 128 #[v,.agg #[.int .u8 3,.int .i64 xty,.int .i64 xa1,.int .i64 xb1,.int .i64 xn1,.slice aa an ac,.slice ra rn rc],vl] w (BoolR (typedB p ⟨3,xty,xa1,xb1,xn1,xar,xfr⟩ l) w):=by
 have hp0:=hp
 obtain ⟨vt,vf0,rfl,ht,hf⟩:=hp
 obtain ⟨W1,hW1⟩:∃ W1,W1=w.alloc (.cells #[vt,vf0] 27):=⟨_,rfl⟩
 obtain ⟨W,hW⟩:∃ W,W=W1.alloc (.cells #[.int .u8 3,.int .i64 xty,.int .i64 xa1,.int .i64 xb1,.int .i64 xn1,.slice aa an ac,.slice ra rn rc] 31):=⟨_,rfl⟩
 have hb1:Below w.heap.size w W1:=by rw [hW1];exact alloc_below _ _
 have hs1:W1.heap.size=w.heap.size+1:=by rw [hW1];simp
 have hb2:Below W1.heap.size W1 W:=by rw [hW];exact alloc_below _ _
 have k0:W1.heap[w.heap.size]?=some (.cells #[vt,vf0] 27 (0,0)):=by rw [hW1];exact alloc_new _ _
 have k1:W.heap[W1.heap.size]?=some (.cells #[.int .u8 3,.int .i64 xty,.int .i64 xa1,.int .i64 xb1,.int .i64 xn1,.slice aa an ac,.slice ra rn rc] 31 (0,0)):=by rw [hW];exact TyD.alloc_new _ _
 have k2:W.heap[w.heap.size]?=some (.cells #[vt,vf0] 27 (0,0)):=(hb2.block _ (Array.getElem?_eq_some_iff.1 k0).1).trans k0
 have hbW:Below w.heap.size w W:=hb1.trans (hb2.mono hb1.size)
 have HP:=hid (hp0.below hbW)
 have HLI:=hid (hl.below hbW)
 have hfW:=hf.below fnStays hbW
 obtain ⟨ta,tc,rfl⟩:=ht.slice
 obtain ⟨fa,fc,rfl,_⟩:=hf.slice
 obtain ⟨la,lc,rfl,_⟩:=ints_slice hl
 rw [hs1] at k1
 have l0:∀ w',Aft W w'→w'.cell? ⟨w.heap.size,0,none⟩=some (.slice ta p.types.length tc):=later_cells k2 0 _ rfl
 have l1:∀ w',Aft W w'→w'.cell? ⟨w.heap.size,1,none⟩=some (.slice fa p.funcs.length fc):=later_cells k2 1 _ rfl
 have m0:∀ w',Aft W w'→w'.cell? ⟨w.heap.size+1,0,none⟩=some (.int .u8 3):=later_cells k1 0 _ rfl
 have m1:∀ w',Aft W w'→w'.cell? ⟨w.heap.size+1,1,none⟩=some (.int .i64 xty):=later_cells k1 1 _ rfl
 have m2:∀ w',Aft W w'→w'.cell? ⟨w.heap.size+1,2,none⟩=some (.int .i64 xa1):=later_cells k1 2 _ rfl
 have m3:∀ w',Aft W w'→w'.cell? ⟨w.heap.size+1,3,none⟩=some (.int .i64 xb1):=later_cells k1 3 _ rfl
 have m4:∀ w',Aft W w'→w'.cell? ⟨w.heap.size+1,4,none⟩=some (.int .i64 xn1):=later_cells k1 4 _ rfl
 have m5:∀ w',Aft W w'→w'.cell? ⟨w.heap.size+1,5,none⟩=some (.slice aa an ac):=later_cells k1 5 _ rfl
 have m6:∀ w',Aft W w'→w'.cell? ⟨w.heap.size+1,6,none⟩=some (.slice ra rn rc):=later_cells k1 6 _ rfl
 have HBW:=hid hbW
 have HW1:=hid hW1
 have HW:=hid hW
 have h0:=Aft.refl W
 have h0d:=h0.drew
 have HM:Hid (typedB p ⟨3,xty,xa1,xb1,xn1,xar,xfr⟩ l=(decide (xty=sigAt p xn1))):=by show _=_;first | rfl | simp [typedB]
 clear hp0 ht hf hl hW1 hW hb1 hb2 hs1 k0 k1 k2 hbW
 subst hk
 obtain ⟨fb,foff,fcap,ao,bc,he,d0,d1,_⟩:=fn_later hfW hy
 cases he
 have hkl:=hy.lt
 have hki:(k:Int) < (p.funcs.length:Int):=by omega
 have hsg:sigAt p (k:Int)=y.sig:=by unfold sigAt;rw [Int.toNat_natCast,hy.at_];rfl
 rw [hsg] at HM
 have HX:Hid ((xty == y.sig)=decide (xty=y.sig)):=by show _=_;rw [Bool.eq_iff_iff];simp
 rw [← HX.out] at HM
 clear hfW HLI HP hy hsg HX d1
 generalize y.sig=sg at *
 generalize typedB p ⟨3,xty,xa1,xb1,(k:Int),xar,xfr⟩ l=ans at *
 generalize p.types.length=q1 at *
 generalize p.funcs.length=q2 at *
 generalize l.length=q3 at *
 go_enter Tryz.func128,Tryz.ntmps128
 go_upto_region 1 with fail
 rw [← HW1.out,← HW.out]
 clear HW1 HW
 go_upto_region 8 with fail
 go_region_held3 (fun w'=>Aft W w') (exact h0d) (fail)
 all_goals
  go_wp2
  go_ret
  exact ⟨by rw [HM.out];first | done | rfl,h0d.out HBW.out⟩

theorem typed18_of (p:Px) (xty xa1 xb1 xn1:Int) (xar xfr:List Int) (aa:Option Addr) (an ac:Nat) (ra:Option Addr) (rn rc:Nat) (l:List Int) (v vl:Value) (w:World) (hp:PrAt w v p) (hl:IntsAt w vl l) (k:Nat) (y:Fx) (hk:xn1=k) (hy:Has1 p k k y) :
  Calls Tryz.prog 128 #[v,.agg #[.int .u8 18,.int .i64 xty,.int .i64 xa1,.int .i64 xb1,.int .i64 xn1,.slice aa an ac,.slice ra rn rc],vl] w (BoolR (typedB p ⟨18,xty,xa1,xb1,xn1,xar,xfr⟩ l) w):=by
 have hp0:=hp
 obtain ⟨vt,vf0,rfl,ht,hf⟩:=hp
 obtain ⟨W1,hW1⟩:∃ W1,W1=w.alloc (.cells #[vt,vf0] 27):=⟨_,rfl⟩
 obtain ⟨W,hW⟩:∃ W,W=W1.alloc (.cells #[.int .u8 18,.int .i64 xty,.int .i64 xa1,.int .i64 xb1,.int .i64 xn1,.slice aa an ac,.slice ra rn rc] 31):=⟨_,rfl⟩
 have hb1:Below w.heap.size w W1:=by rw [hW1];exact alloc_below _ _
 have hs1:W1.heap.size=w.heap.size+1:=by rw [hW1];simp
 have hb2:Below W1.heap.size W1 W:=by rw [hW];exact alloc_below _ _
 have k0:W1.heap[w.heap.size]?=some (.cells #[vt,vf0] 27 (0,0)):=by rw [hW1];exact alloc_new _ _
 have k1:W.heap[W1.heap.size]?=some (.cells #[.int .u8 18,.int .i64 xty,.int .i64 xa1,.int .i64 xb1,.int .i64 xn1,.slice aa an ac,.slice ra rn rc] 31 (0,0)):=by rw [hW];exact TyD.alloc_new _ _
 have k2:W.heap[w.heap.size]?=some (.cells #[vt,vf0] 27 (0,0)):=(hb2.block _ (Array.getElem?_eq_some_iff.1 k0).1).trans k0
 have hbW:Below w.heap.size w W:=hb1.trans (hb2.mono hb1.size)
 have HP:=hid (hp0.below hbW)
 have HLI:=hid (hl.below hbW)
 have hfW:=hf.below fnStays hbW
 obtain ⟨ta,tc,rfl⟩:=ht.slice
 obtain ⟨fa,fc,rfl,_⟩:=hf.slice
 obtain ⟨la,lc,rfl,_⟩:=ints_slice hl
 rw [hs1] at k1
 have l0:∀ w',Aft W w'→w'.cell? ⟨w.heap.size,0,none⟩=some (.slice ta p.types.length tc):=later_cells k2 0 _ rfl
 have l1:∀ w',Aft W w'→w'.cell? ⟨w.heap.size,1,none⟩=some (.slice fa p.funcs.length fc):=later_cells k2 1 _ rfl
 have m0:∀ w',Aft W w'→w'.cell? ⟨w.heap.size+1,0,none⟩=some (.int .u8 18):=later_cells k1 0 _ rfl
 have m1:∀ w',Aft W w'→w'.cell? ⟨w.heap.size+1,1,none⟩=some (.int .i64 xty):=later_cells k1 1 _ rfl
 have m2:∀ w',Aft W w'→w'.cell? ⟨w.heap.size+1,2,none⟩=some (.int .i64 xa1):=later_cells k1 2 _ rfl
 have m3:∀ w',Aft W w'→w'.cell? ⟨w.heap.size+1,3,none⟩=some (.int .i64 xb1):=later_cells k1 3 _ rfl
 have m4:∀ w',Aft W w'→w'.cell? ⟨w.heap.size+1,4,none⟩=some (.int .i64 xn1):=later_cells k1 4 _ rfl
 have m5:∀ w',Aft W w'→w'.cell? ⟨w.heap.size+1,5,none⟩=some (.slice aa an ac):=later_cells k1 5 _ rfl
 have m6:∀ w',Aft W w'→w'.cell? ⟨w.heap.size+1,6,none⟩=some (.slice ra rn rc):=later_cells k1 6 _ rfl
 have HBW:=hid hbW
 have HW1:=hid hW1
 have HW:=hid hW
 have h0:=Aft.refl W
 have h0d:=h0.drew
 have HM:Hid (typedB p ⟨18,xty,xa1,xb1,xn1,xar,xfr⟩ l=(callK p.types (sigAt p xn1) l xty)):=by show _=_;first | rfl | simp [typedB]
 clear hp0 ht hf hl hW1 hW hb1 hb2 hs1 k0 k1 k2 hbW
 subst hk
 obtain ⟨fb,foff,fcap,ao,bc,he,d0,d1,_⟩:=fn_later hfW hy
 cases he
 have hkl:=hy.lt
 have hki:(k:Int) < (p.funcs.length:Int):=by omega
 have hsg:sigAt p (k:Int)=y.sig:=by unfold sigAt;rw [Int.toNat_natCast,hy.at_];rfl
 rw [hsg] at HM
 have hsl:=hy.sig1
 have HI:=hid (fun wx (h:Aft W wx)=>called_calls p y.sig l xty _ (.slice la l.length lc) wx (HP.out.below h.below) hsl (HLI.out.below h.below))
 clear hfW HLI HP hy hsg hsl d1
 generalize callK p.types y.sig l xty=b1 at *
 generalize y.sig=sg at *
 generalize typedB p ⟨18,xty,xa1,xb1,(k:Int),xar,xfr⟩ l=ans at *
 generalize p.types.length=q1 at *
 generalize p.funcs.length=q2 at *
 generalize l.length=q3 at *
 go_enter Tryz.func128,Tryz.ntmps128
 go_upto_region 1 with fail
 rw [← HW1.out,← HW.out]
 clear HW1 HW
 go_upto_region 31 with fail
 go_region_held3 (fun w'=>Aft W w') (first | exact h0d.go hb2 | exact h0d)
  ((go_at_call 174;(with_reducible refine (HI.out _ h0d).mono ?_);rintro e w2 ⟨rfl,hb2⟩))
 all_goals
  go_wp2
  go_ret
  exact ⟨by rw [HM.out];first | done | rfl,(h0d.go hb2).out HBW.out⟩

theorem typed19_of (p:Px) (xty xa1 xb1 xn1:Int) (xar xfr:List Int) (aa:Option Addr) (an ac:Nat) (ra:Option Addr) (rn rc:Nat) (l:List Int) (v vl:Value) (w:World) (hp:PrAt w v p) (hl:IntsAt w vl l) (hl0:0 < l.length) (hlt:∀ n∈l,n < p.types.length) :
  Calls Tryz.prog 128 #[v,.agg #[.int .u8 19,.int .i64 xty,.int .i64 xa1,.int .i64 xb1,.int .i64 xn1,.slice aa an ac,.slice ra rn rc],vl] w (BoolR (typedB p ⟨19,xty,xa1,xb1,xn1,xar,xfr⟩ l) w):=by
 have hp0:=hp
 obtain ⟨vt,vf0,rfl,ht,hf⟩:=hp
 obtain ⟨W1,hW1⟩:∃ W1,W1=w.alloc (.cells #[vt,vf0] 27):=⟨_,rfl⟩
 obtain ⟨W,hW⟩:∃ W,W=W1.alloc (.cells #[.int .u8 19,.int .i64 xty,.int .i64 xa1,.int .i64 xb1,.int .i64 xn1,.slice aa an ac,.slice ra rn rc] 31):=⟨_,rfl⟩
 have hb1:Below w.heap.size w W1:=by rw [hW1];exact alloc_below _ _
 have hs1:W1.heap.size=w.heap.size+1:=by rw [hW1];simp
 have hb2:Below W1.heap.size W1 W:=by rw [hW];exact alloc_below _ _
 have k0:W1.heap[w.heap.size]?=some (.cells #[vt,vf0] 27 (0,0)):=by rw [hW1];exact alloc_new _ _
 have k1:W.heap[W1.heap.size]?=some (.cells #[.int .u8 19,.int .i64 xty,.int .i64 xa1,.int .i64 xb1,.int .i64 xn1,.slice aa an ac,.slice ra rn rc] 31 (0,0)):=by rw [hW];exact TyD.alloc_new _ _
 have k2:W.heap[w.heap.size]?=some (.cells #[vt,vf0] 27 (0,0)):=(hb2.block _ (Array.getElem?_eq_some_iff.1 k0).1).trans k0
 have hbW:Below w.heap.size w W:=hb1.trans (hb2.mono hb1.size)
 have HP:=hid (hp0.below hbW)
 have HLI:=hid (hl.below hbW)
 have hfW:=hf.below fnStays hbW
 obtain ⟨ta,tc,rfl⟩:=ht.slice
 obtain ⟨fa,fc,rfl,_⟩:=hf.slice
 obtain ⟨la,lc,rfl,_⟩:=ints_slice hl
 rw [hs1] at k1
 have l0:∀ w',Aft W w'→w'.cell? ⟨w.heap.size,0,none⟩=some (.slice ta p.types.length tc):=later_cells k2 0 _ rfl
 have l1:∀ w',Aft W w'→w'.cell? ⟨w.heap.size,1,none⟩=some (.slice fa p.funcs.length fc):=later_cells k2 1 _ rfl
 have m0:∀ w',Aft W w'→w'.cell? ⟨w.heap.size+1,0,none⟩=some (.int .u8 19):=later_cells k1 0 _ rfl
 have m1:∀ w',Aft W w'→w'.cell? ⟨w.heap.size+1,1,none⟩=some (.int .i64 xty):=later_cells k1 1 _ rfl
 have m2:∀ w',Aft W w'→w'.cell? ⟨w.heap.size+1,2,none⟩=some (.int .i64 xa1):=later_cells k1 2 _ rfl
 have m3:∀ w',Aft W w'→w'.cell? ⟨w.heap.size+1,3,none⟩=some (.int .i64 xb1):=later_cells k1 3 _ rfl
 have m4:∀ w',Aft W w'→w'.cell? ⟨w.heap.size+1,4,none⟩=some (.int .i64 xn1):=later_cells k1 4 _ rfl
 have m5:∀ w',Aft W w'→w'.cell? ⟨w.heap.size+1,5,none⟩=some (.slice aa an ac):=later_cells k1 5 _ rfl
 have m6:∀ w',Aft W w'→w'.cell? ⟨w.heap.size+1,6,none⟩=some (.slice ra rn rc):=later_cells k1 6 _ rfl
 have HBW:=hid hbW
 have HW1:=hid hW1
 have HW:=hid hW
 have h0:=Aft.refl W
 have h0d:=h0.drew
 have HM:Hid (typedB p ⟨19,xty,xa1,xb1,xn1,xar,xfr⟩ l=(callK p.types (l.getD 0 0) (l.drop 1) xty)):=by show _=_;first | rfl | simp [typedB]
 clear hp0 ht hf hl hW1 hW hb1 hb2 hs1 k0 k1 k2 hbW
 obtain ⟨lb,lo,rfl,c0⟩:=int_at HLI.out (getD_at hl0)
 have hm0:=hlt _ (List.mem_of_getElem? (getD_at hl0))
 have n0:=later c0
 rw [Nat.add_zero] at n0
 have hl0i:(0:Int) < (l.length:Int):=by omega
 have hcap:=ints_cap HLI.out
 have hcapi:(l.length:Int)≤(lc:Int):=by omega
 have h1li:(1:Int)≤(l.length:Int):=by omega
 have h1ci:(1:Int)≤(lc:Int):=by omega
 have h1l:1≤l.length:=hl0
 have HI:=hid (fun wx (h:Aft W wx)=>called_calls p (l.getD 0 0) (l.drop 1) xty _ (.slice (if lc=1 then some ⟨lb,lo,none⟩ else some ⟨lb,lo+1,none⟩) (l.length - 1) (lc - 1)) wx (HP.out.below h.below) hm0 (ints_drop2 (HLI.out.below h.below) hl0))
 clear hfW HLI HP hlt c0 hm0
 generalize callK p.types (l.getD 0 0) (l.drop 1) xty=b1 at *
 generalize l.getD 0 0=u0 at *
 generalize typedB p ⟨19,xty,xa1,xb1,xn1,xar,xfr⟩ l=ans at *
 generalize p.types.length=q1 at *
 generalize p.funcs.length=q2 at *
 generalize l.length=q3 at *
 by_cases hlc:lc=1
 ·subst hlc
  obtain rfl:q3=1:=by omega
  have HI:=HI.out
  simp only [if_true,Nat.sub_self] at HI
  have HI:=hid HI
  go_enter Tryz.func128,Tryz.ntmps128
  go_upto_region 1 with fail
  rw [← HW1.out,← HW.out]
  clear HW1 HW
  go_upto_region 33 with fail
  go_region_held3 (fun w'=>Aft W w') (first | exact h0d.go hb2 | exact h0d)
   ((go_at_call 174;(with_reducible refine (HI.out _ h0d).mono ?_);rintro e w2 ⟨rfl,hb2⟩))
  all_goals
   go_wp2
   go_ret
   exact ⟨by rw [HM.out];first | done | rfl,(h0d.go hb2).out HBW.out⟩
 ·have HI:=HI.out
  simp only [hlc,if_false] at HI
  have HI:=hid HI
  go_enter Tryz.func128,Tryz.ntmps128
  go_upto_region 1 with fail
  rw [← HW1.out,← HW.out]
  clear HW1 HW
  go_upto_region 33 with fail
  go_region_held3 (fun w'=>Aft W w') (first | exact h0d.go hb2 | exact h0d)
   ((go_at_call 174;(with_reducible refine (HI.out _ h0d).mono ?_);rintro e w2 ⟨rfl,hb2⟩))
  all_goals
   go_wp2
   go_ret
   exact ⟨by rw [HM.out];first | done | rfl,(h0d.go hb2).out HBW.out⟩

theorem typed22_of (p:Px) (xty xa1 xb1 xn1:Int) (xar xfr:List Int) (aa:Option Addr) (an ac:Nat) (ra:Option Addr) (rn rc:Nat) (l:List Int) (v vl:Value) (w:World) (hp:PrAt w v p) (hl:IntsAt w vl l) :
  Calls Tryz.prog 128 #[v,.agg #[.int .u8 22,.int .i64 xty,.int .i64 xa1,.int .i64 xb1,.int .i64 xn1,.slice aa an ac,.slice ra rn rc],vl] w (BoolR (typedB p ⟨22,xty,xa1,xb1,xn1,xar,xfr⟩ l) w):=by
 have hp0:=hp
 obtain ⟨vt,vf0,rfl,ht,hf⟩:=hp
 obtain ⟨W1,hW1⟩:∃ W1,W1=w.alloc (.cells #[vt,vf0] 27):=⟨_,rfl⟩
 obtain ⟨W,hW⟩:∃ W,W=W1.alloc (.cells #[.int .u8 22,.int .i64 xty,.int .i64 xa1,.int .i64 xb1,.int .i64 xn1,.slice aa an ac,.slice ra rn rc] 31):=⟨_,rfl⟩
 have hb1:Below w.heap.size w W1:=by rw [hW1];exact alloc_below _ _
 have hs1:W1.heap.size=w.heap.size+1:=by rw [hW1];simp
 have hb2:Below W1.heap.size W1 W:=by rw [hW];exact alloc_below _ _
 have k0:W1.heap[w.heap.size]?=some (.cells #[vt,vf0] 27 (0,0)):=by rw [hW1];exact alloc_new _ _
 have k1:W.heap[W1.heap.size]?=some (.cells #[.int .u8 22,.int .i64 xty,.int .i64 xa1,.int .i64 xb1,.int .i64 xn1,.slice aa an ac,.slice ra rn rc] 31 (0,0)):=by rw [hW];exact TyD.alloc_new _ _
 have k2:W.heap[w.heap.size]?=some (.cells #[vt,vf0] 27 (0,0)):=(hb2.block _ (Array.getElem?_eq_some_iff.1 k0).1).trans k0
 have hbW:Below w.heap.size w W:=hb1.trans (hb2.mono hb1.size)
 have HP:=hid (hp0.below hbW)
 have HLI:=hid (hl.below hbW)
 have hfW:=hf.below fnStays hbW
 obtain ⟨ta,tc,rfl⟩:=ht.slice
 obtain ⟨fa,fc,rfl,_⟩:=hf.slice
 obtain ⟨la,lc,rfl,_⟩:=ints_slice hl
 rw [hs1] at k1
 have l0:∀ w',Aft W w'→w'.cell? ⟨w.heap.size,0,none⟩=some (.slice ta p.types.length tc):=later_cells k2 0 _ rfl
 have l1:∀ w',Aft W w'→w'.cell? ⟨w.heap.size,1,none⟩=some (.slice fa p.funcs.length fc):=later_cells k2 1 _ rfl
 have m0:∀ w',Aft W w'→w'.cell? ⟨w.heap.size+1,0,none⟩=some (.int .u8 22):=later_cells k1 0 _ rfl
 have m1:∀ w',Aft W w'→w'.cell? ⟨w.heap.size+1,1,none⟩=some (.int .i64 xty):=later_cells k1 1 _ rfl
 have m2:∀ w',Aft W w'→w'.cell? ⟨w.heap.size+1,2,none⟩=some (.int .i64 xa1):=later_cells k1 2 _ rfl
 have m3:∀ w',Aft W w'→w'.cell? ⟨w.heap.size+1,3,none⟩=some (.int .i64 xb1):=later_cells k1 3 _ rfl
 have m4:∀ w',Aft W w'→w'.cell? ⟨w.heap.size+1,4,none⟩=some (.int .i64 xn1):=later_cells k1 4 _ rfl
 have m5:∀ w',Aft W w'→w'.cell? ⟨w.heap.size+1,5,none⟩=some (.slice aa an ac):=later_cells k1 5 _ rfl
 have m6:∀ w',Aft W w'→w'.cell? ⟨w.heap.size+1,6,none⟩=some (.slice ra rn rc):=later_cells k1 6 _ rfl
 have HBW:=hid hbW
 have HW1:=hid hW1
 have HW:=hid hW
 have h0:=Aft.refl W
 have h0d:=h0.drew
 have HM:Hid (typedB p ⟨22,xty,xa1,xb1,xn1,xar,xfr⟩ l=(l.all (fun n=>decide (n=xty)) && scalK p.types xty)):=by show _=_;first | rfl | simp [typedB]
 clear hp0 ht hf hl hW1 hW hb1 hb2 hs1 k0 k1 k2 hbW
 have hll:l.length≤9223372036854775807:=(ints_slice HLI.out).elim fun _ h=>h.elim fun _ h=>h.2
 have HLL:=hid hll
 have HI:=hid (fun wx (h:Aft W wx)=>scalar_calls p xty _ wx (HP.out.below h.below))
 have HAL:=hid (fun (h:AllN (fun n=>decide (n=xty)) l l.length)=>allN_all h)
 have HNO:=hid (fun n u hu hn=>all_not (q:=fun n=>decide (n=xty)) (l:=l) (n:=n) (u:=u) hu hn)
 clear hfW HP hll
 generalize l.all (fun n=>decide (n=xty))=al at *
 generalize scalK p.types xty=b1 at *
 generalize typedB p ⟨22,xty,xa1,xb1,xn1,xar,xfr⟩ l=ans at *
 generalize p.types.length=q1 at *
 generalize p.funcs.length=q2 at *
 go_enter Tryz.func128,Tryz.ntmps128
 go_upto_region 1 with fail
 rw [← HW1.out,← HW.out]
 clear HW1 HW
 go_wp2_with fail
 go_loopg [7] l.length (fun gk iv wr=>∃ n:Nat,n+gk=l.length∧iv=.int .i64 n∧AllN (fun n=>decide (n=xty)) l n∧Aft W wr)
 case atStart=>exact ⟨0,by omega,rfl,fun i u hi=>absurd hi (by omega),h0⟩
 case round =>
  obtain ⟨n,hn,rfl,hall,hA⟩:=hrel
  have HN:=hid hn
  have HALL:=hid hall
  clear hn hall
  by_cases hnt:n < l.length
  ·have HNT:=hid hnt
   obtain ⟨u,hu⟩:=some_at hnt
   obtain ⟨b2,o2,rfl,c2⟩:=int_at (HLI.out.below hA.below) hu
   have hDr:=(Aft.refl wr).drew
   have HNX:=hid (fun (hh:u=xty)=>allN_next HALL.out hu (decide_eq_true hh))
   have HN2:=hid (fun (hh:¬ u=xty)=>HNO.out n u hu (decide_eq_false hh))
   have hnl:(n:Int) < (l.length:Int):=by omega
   have hnb:n≤9223372036854775806:=by have:=HLL.out;omega
   have r1:=fun w' (h:Aft wr w')=>m1 w' (hA.trans h)
   have r2:=later c2
   have HAW:=hid hA
   clear hu c2 l0 l1 m0 m1 m2 m3 m4 m5 m6 hA h0 h0d HI
   by_cases hux:u=xty
   ·have hq:(u != xty)=false:=by simp [hux]
    have HX:=hid (HNX.out hux)
    clear hux HNX HN2
    go_wp2_with fail
    go_region_held3 (fun w'=>Aft wr w') (exact hDr) (fail)
    all_goals
     have h3:=HAW.out.trans hDr
     clear r1 r2 hDr
     go_wp2
     go_roundg (gk - 1)
     case measure=>have:=HN.out;have:=HNT.out;omega
     case rel=>exact ⟨n+1,by have:=HN.out;have:=HNT.out;omega,by go_num,HX.out,h3⟩
   ·have hq:(u != xty)=true:=by simpa using hux
    have HX:=hid (HN2.out hux)
    clear hux HNX HN2
    go_wp2_with fail
    go_region_held3 (fun w'=>Aft wr w') (exact hDr) (fail)
    all_goals
     have h3:=HAW.out.trans hDr
     clear r1 r2 hDr
     go_wp2
     go_ret
     exact ⟨by rw [HM.out,HX.out];rfl,h3.out HBW.out⟩
  ·obtain rfl:n=l.length:=by have:=HN.out;omega
   have HX:=hid (HAL.out HALL.out)
   clear HALL hnt
   go_wp2_with fail
   refine (HI.out _ hA).mono ?_
   rintro e w2 ⟨rfl,hb2⟩
   have h2:=hA.go hb2
   clear HI hb2 hA
   go_wp2
   go_ret
   exact ⟨by rw [HM.out,HX.out];rfl,h2.out HBW.out⟩
end Go.Proofs.YtpejpnffcepdlaaGreatDoor.SwX
namespace Go.Proofs.YtpejpnffcepdlaaGreatDoor.SwY
open Go.RowKit Go.Lib RwO SetP IntO TyM TyP TyB TyC ShM ShP ShA ShB ShC ShE ShH ShI ShJ Aft FwM FwC FwP FwQ FwR SvQ SvP SwA SwM SwT SwV SwW SwX

theorem uses1 {x:Ix} (h:hasAB x.op=true):0 < (usesOf x).length:=by unfold usesOf;rw [if_pos h];simp
theorem uses2 {x:Ix} (h:hasAB x.op=true) (h2:twoB x.op=true):1 < (usesOf x).length:=by unfold usesOf;rw [if_pos h,if_pos h2];simp
theorem typed_calls (p:Px) (x:Ix) (va vf:Value) (l:List Int) (v vl:Value) (w:World) (hp:PrAt w v p) (hc:chkT p.types=0) (hva:∃ a n c,va=.slice a n c) (hvf:∃ a n c,vf=.slice a n c) (hl:IntsAt w vl l) (hlt:∀ n∈l,n < p.types.length) (hty:x.typ < p.types.length) (hop:1≤x.op∧x.op≤22)
  (hfn:x.op=3∨x.op=18→∃ (k:Nat) (y:Fx),x.n=k∧Has1 p k k y) (hlen:l.length=(usesOf x).length) :
  Calls Tryz.prog 128 #[v,ixV x va vf,vl] w (BoolR (typedB p x l) w):=by
 obtain ⟨aa,an,ac,rfl⟩:=hva
 obtain ⟨ra,rn,rc,rfl⟩:=hvf
 obtain ⟨xop,xty,xa1,xb1,xn1,xar,xfr⟩:=x
 simp only at hty hop hfn
 by_cases e1:xop=1
 ·subst e1
  exact typed1_of p xty xa1 xb1 xn1 xar xfr aa an ac ra rn rc l v vl w hp hl hty
 by_cases e2:xop=2
 ·subst e2
  exact typed2_of p xty xa1 xb1 xn1 xar xfr aa an ac ra rn rc l v vl w hp hl hty
 by_cases e3:xop=3
 ·subst e3
  obtain ⟨k,y,hk,hy⟩:=hfn (by decide)
  exact typed3_of p xty xa1 xb1 xn1 xar xfr aa an ac ra rn rc l v vl w hp hl k y hk hy
 by_cases e4:xop=4
 ·subst e4
  exact typed4_of p xty xa1 xb1 xn1 xar xfr aa an ac ra rn rc l v vl w hp hl (by rw [hlen];exact uses2 (show hasAB 4=true by decide) (show twoB 4=true by decide)) hlt hty
 by_cases e5:xop=5
 ·subst e5
  exact typed5_of p xty xa1 xb1 xn1 xar xfr aa an ac ra rn rc l v vl w hp hl (by rw [hlen];exact uses2 (show hasAB 5=true by decide) (show twoB 5=true by decide)) hlt hty
 by_cases e6:xop=6
 ·subst e6
  exact typed6_of p xty xa1 xb1 xn1 xar xfr aa an ac ra rn rc l v vl w hp hl (by rw [hlen];exact uses2 (show hasAB 6=true by decide) (show twoB 6=true by decide)) hlt hty
 by_cases e7:xop=7
 ·subst e7
  exact typed7_of p xty xa1 xb1 xn1 xar xfr aa an ac ra rn rc l v vl w hp hl (by rw [hlen];exact uses2 (show hasAB 7=true by decide) (show twoB 7=true by decide)) hlt hty
 by_cases e8:xop=8
 ·subst e8
  exact typed8_of p xty xa1 xb1 xn1 xar xfr aa an ac ra rn rc l v vl w hp hl (by rw [hlen];exact uses2 (show hasAB 8=true by decide) (show twoB 8=true by decide)) hlt hty
 by_cases e9:xop=9
 ·subst e9
  exact typed9_of p xty xa1 xb1 xn1 xar xfr aa an ac ra rn rc l v vl w hp hl (by rw [hlen];exact uses2 (show hasAB 9=true by decide) (show twoB 9=true by decide)) hlt hty
 by_cases e10:xop=10
 ·subst e10
  exact typed10_of p xty xa1 xb1 xn1 xar xfr aa an ac ra rn rc l v vl w hp hl (by rw [hlen];exact uses2 (show hasAB 10=true by decide) (show twoB 10=true by decide)) hlt hty
 by_cases e11:xop=11
 ·subst e11
  exact typed11_of p xty xa1 xb1 xn1 xar xfr aa an ac ra rn rc l v vl w hp hl hty
 by_cases e12:xop=12
 ·subst e12
  exact typed12_of p xty xa1 xb1 xn1 xar xfr aa an ac ra rn rc l v vl w hp hl hty
 by_cases e13:xop=13
 ·subst e13
  exact typed13_of p xty xa1 xb1 xn1 xar xfr aa an ac ra rn rc l v vl w hp hl (by rw [hlen];exact uses1 (show hasAB 13=true by decide)) hlt
 by_cases e14:xop=14
 ·subst e14
  exact typed14_of p xty xa1 xb1 xn1 xar xfr aa an ac ra rn rc l v vl w hp hl (by rw [hlen];exact uses1 (show hasAB 14=true by decide)) hlt hty hc
 by_cases e15:xop=15
 ·subst e15
  exact typed15_of p xty xa1 xb1 xn1 xar xfr aa an ac ra rn rc l v vl w hp hl (by rw [hlen];exact uses2 (show hasAB 15=true by decide) (show twoB 15=true by decide)) hlt hty hc
 by_cases e16:xop=16
 ·subst e16
  exact typed16_of p xty xa1 xb1 xn1 xar xfr aa an ac ra rn rc l v vl w hp hl (by rw [hlen];exact uses1 (show hasAB 16=true by decide)) hlt hty hc
 by_cases e17:xop=17
 ·subst e17
  exact typed17_of p xty xa1 xb1 xn1 xar xfr aa an ac ra rn rc l v vl w hp hl (by rw [hlen];exact uses2 (show hasAB 17=true by decide) (show twoB 17=true by decide)) hlt hty hc
 by_cases e18:xop=18
 ·subst e18
  obtain ⟨k,y,hk,hy⟩:=hfn (by decide)
  exact typed18_of p xty xa1 xb1 xn1 xar xfr aa an ac ra rn rc l v vl w hp hl k y hk hy
 by_cases e19:xop=19
 ·subst e19
  exact typed19_of p xty xa1 xb1 xn1 xar xfr aa an ac ra rn rc l v vl w hp hl (by rw [hlen];exact uses1 (show hasAB 19=true by decide)) hlt
 by_cases e20:xop=20
 ·subst e20
  exact typed20_of p xty xa1 xb1 xn1 xar xfr aa an ac ra rn rc l v vl w hp hl hty
 by_cases e21:xop=21
 ·subst e21
  exact typed21_of p xty xa1 xb1 xn1 xar xfr aa an ac ra rn rc l v vl w hp hl (by rw [hlen];exact uses1 (show hasAB 21=true by decide)) hlt
 obtain rfl:xop=22:=by omega
 exact typed22_of p xty xa1 xb1 xn1 xar xfr aa an ac ra rn rc l v vl w hp hl
end Go.Proofs.YtpejpnffcepdlaaGreatDoor.SwY
namespace Go.Proofs.YtpejpnffcepdlaaGreatDoor.SwR
open Go.RowKit Go.Lib RwO SetP IntO TyM TyP TyB TyC TyRA TyRE ShM ShP ShA ShB ShC ShE ShRA ShH ShI ShJ ShK ShL ShRG ShRH ShRI ShBP ShV Aft FwM FwC FwP FwQ FwR FvA FvB FdM FdQ FdE LvM SvQ SvP SwA SwM SwT SwU SwY SwPh IntG BlkG

theorem plain_lt {t:List Ty} {n:Int} (h:plainB t n=true):n < t.length:=by
 obtain ⟨h0,x,hx,_⟩:=plainB_iff.1 h
 have:=(List.getElem?_eq_some_iff.1 hx).1
 omega
theorem sig_fn {p:Px} (hc:chkP p=0) {x:Fx} (hx:x∈p.funcs):isK p.types x.sig 3=true:=by
 have hm:=may_zero ((chk_zero hc).2.2.2 x hx)
 unfold isK
 simp only [Bool.and_eq_true,decide_eq_true_eq]
 exact ⟨hm.1.1,hm.2.1⟩
theorem type_lt {p:Px} (hc:chkP p=0) (ho:POk p) {x:Fx} (hx:x∈p.funcs) {r:Int} (h0:0≤r) (h1:r < ((parOf p.types x.sig+manyB x.blocks:Nat):Int)):typeI p.types x r < p.types.length:=by
 unfold typeI
 by_cases hp:r < parOf p.types x.sig
 ·rw [if_pos hp]
  have hn:r.toNat < (tyN p.types x.sig).parts.length:=by show r.toNat < parOf p.types x.sig;omega
  rw [List.getElem?_eq_getElem hn]
  exact plain_lt ((fn_plain (chk_zero hc).1 (sig_fn hc hx)).2 _ (List.getElem_mem hn))
 ·rw [if_neg hp]
  obtain ⟨c,q,hcl,hloc,_,hq⟩:=locate_spec x.blocks (r - parOf p.types x.sig).toNat (by omega)
  rw [hloc]
  have hq2:q < (insAt x.blocks c).length:=by unfold insAt;rw [List.getElem?_eq_getElem hcl];exact hq
  obtain ⟨y,hy⟩:=some_at hq2
  rw [insOf_at hy]
  obtain ⟨b,hb,hyb⟩:=insAt_mem hy hcl
  by_cases ha:answersB y.op=true
  ·rw [if_pos ha]
   exact ((ins_ok hc ho hx hb hyb).typ ha).2
  ·rw [if_neg ha]
   omega
theorem place_zero {p:Px} {k:Nat} {x:Fx} (hz:findP p k=0) (hx:Has1 p k k x) {r:Int} (h:0≤r∧r < ((parOf p.types x.sig+manyB x.blocks:Nat):Int)):placeE p k r=0:=by
 unfold placeE
 rw [if_neg (fun e=>e hz),cnt_at hx,if_pos ⟨h.1,by omega⟩]
theorem find_of {p:Px} (hc:chkP p=0) {n:Int} (h:0≤n∧n < p.funcs.length):findP p n=0:=by
 unfold findP
 rw [if_neg (fun e=>e hc),if_pos h]
theorem types_map {t:List Ty} {x:Fx} {us:List Int} (h:typesB t x us=true):typesL t x us=us.map (typeI t x):=by unfold typesL;rw [if_pos h]
theorem uses_few {nt nf nb nr:Nat} {y:Ix} (h:InsOk nt nf nb nr y):y.args.length≤16∧(usesOf y).length≤20:=by
 have ha:y.args.length≤16:=by
  by_cases e:y.op=22
  ·have:=h.phi e;omega
  ·have:=h.other e;omega
 refine ⟨ha,?_⟩
 unfold usesOf
 simp only [List.length_append]
 split<;>split<;>split<;>simp<;>omega
theorem uses_phi {y:Ix} (h:y.op=22):usesOf y=y.args:=by
 unfold usesOf
 rw [h,if_neg (by decide),if_neg (by decide),if_pos (by decide)]
 rfl

theorem right_calls (p:Px) (k:Nat) (x:Fx) (j m:Nat) (y:Ix) (v:Value) (w:World) (hp:PrAt w v p) (hs:Small p) (hok:POk p) (hz:findP p k=0) (hx:Has1 p k k x) (hj:j < x.blocks.length) (hy:(insAt x.blocks j)[m]?=some y) (hml:(insAt x.blocks j).length≤128) :
  Calls Tryz.prog 77 #[v,.int .i64 (k:Int),.int .i64 (j:Int),.int .i64 (m:Int)] w (BoolR (rightB p x j m) w):=by
 have hc:=(find_zero hz).1
 have hxm:=List.mem_of_getElem? hx.at_
 obtain ⟨bb,hbb,hyb⟩:=insAt_mem hy hj
 have hyo:=ins_ok hc hok hxm hbb hyb
 have hop:=(hok x hxm bb hbb).2 y hyb
 have huf:=uses_few hyo
 have hur:∀ r∈usesOf y,0≤r∧r < ((parOf p.types x.sig+manyB x.blocks:Nat):Int):=hyo.uses
 have hrp:∀ r∈usesOf y,placeE p k r=0:=fun r h=>place_zero hz hx (hur r h)
 have hty:y.typ < p.types.length:=by
  cases ha:answersB y.op with
  | true=>exact (hyo.typ ha).2
  | false=>rw [hyo.typ0 ha];have:=hx.sig0;have:=hx.sig1;omega
 have hp0:=hp
 obtain ⟨vt,vf,rfl,ht,hf⟩:=hp
 obtain ⟨W,hW⟩:∃ W,W=w.alloc (.cells #[vt,vf] 27):=⟨_,rfl⟩
 have hbW:Below w.heap.size w W:=by rw [hW];exact alloc_below _ _
 have k1:W.heap[w.heap.size]?=some (.cells #[vt,vf] 27 (0,0)):=by rw [hW];exact alloc_new _ _
 have hWs:W.heap.size=w.heap.size+1:=by rw [hW];simp
 have HP:=hid (hp0.below hbW)
 have hfW:=hf.below fnStays hbW
 obtain ⟨ta,tc,rfl⟩:=ht.slice
 obtain ⟨fa,fc,rfl,_⟩:=hf.slice
 obtain ⟨fb,foff,fcap,ao,bc,he,d0,d1,hbl⟩:=fn_later hfW hx
 cases he
 have l0:∀ w',Aft W w'→w'.cell? ⟨w.heap.size,0,none⟩=some (.slice ta p.types.length tc):=later_cells k1 0 _ rfl
 have l1:∀ w',Aft W w'→w'.cell? ⟨w.heap.size,1,none⟩=some (.slice (some ⟨fb,foff,none⟩) p.funcs.length fc):=later_cells k1 1 _ rfl
 have hkl:=hx.lt
 have hki:(k:Int) < (p.funcs.length:Int):=by omega
 have hji:(j:Int) < (x.blocks.length:Int):=by omega
 obtain ⟨gb,goff,xa,xc,rfl,z0,hins,z1,z2,z3,z4⟩:=blk_ins hbl hj
 have hmi0:=(List.getElem?_eq_some_iff.1 hy).1
 have hmi:(m:Int) < ((insAt x.blocks j).length:Int):=by omega
 obtain ⟨gi,ioff,aa,ac,fa2,fc2,rfl,i0,i1,i2,i3,i4,i5,i6,ja,jf⟩:=ins_later hins hy
 have HUS:=hid (fun wx (h:Aft W wx)=>usesR_calls y (.slice aa y.args.length ac) (.slice fa2 y.frm.length fc2) wx hop.1 hop.2 (ja wx h) (by omega) ⟨_,_,_,rfl⟩)
 have HTP:=hid (fun u wx (h:Aft W wx) (hu:IntsAt wx u (usesOf y))=>types_calls p k x (usesOf y) _ u wx (HP.out.below h.below) hs hok hx hur hu (by omega))
 have HTD:=hid (fun (hb:typesB p.types x (usesOf y)=true) u wx (h:Aft W wx) (hu:IntsAt wx u (typesL p.types x (usesOf y)))=>typed_calls p y (.slice aa y.args.length ac) (.slice fa2 y.frm.length fc2) (typesL p.types x (usesOf y)) _ u wx (HP.out.below h.below) (chk_zero hc).1 ⟨_,_,_,rfl⟩ ⟨_,_,_,rfl⟩ hu
  (fun n hn=>by rw [types_map hb] at hn;obtain ⟨r,hr,rfl⟩:=List.mem_map.1 hn;exact type_lt hc hok hxm (hur r hr).1 (hur r hr).2) hty ⟨hyo.op1,hyo.op2⟩
  (fun ho=>by obtain ⟨q,z,hqz⟩:=has1 (find_of hc (hyo.n ho));have e:=hqz.eq;rw [e] at hqz;exact ⟨q,z,e,hqz⟩) (by rw [types_map hb,List.length_map]))
 have HPH:=hid (fun (h22:y.op=22) wx (h:Aft W wx)=>phi_calls p k x j m y _ wx (HP.out.below h.below) hs hok hz hx hj hy (fun r hr=>hrp r (by rw [uses_phi h22];exact hr)) (fun c hcm=>(hyo.phi h22).2.2.2 c hcm) (hyo.phi h22).1 (hyo.phi h22).2.2.1 hml)
 have HAS:=hid (fun u wx (h:Aft W wx) (hu:IntsAt wx u (usesOf y))=>allSet_calls p k j m (usesOf y) _ u wx (HP.out.below h.below) hs hok hz hrp ⟨by omega,by rw [fn_blocks hx];omega⟩ hu (by omega))
 rw [fn_eq hx,fn_blocks hx] at HAS
 have HRB:Hid (rightB p x j m=(typesB p.types x (usesOf y) && (typedB p y (typesL p.types x (usesOf y)) && (if y.op=22 then phiB (parOf p.types x.sig) x.blocks j m y else (usesOf y).all fun r=>isSetL (parOf p.types x.sig) x.blocks r j m)))):=by
  show _=_
  unfold rightB
  rw [insOf_at hy]
  rfl
 have HUL:=hid huf.2
 have HBW:=hid hbW
 have HW:=hid hW
 have h0:=Aft.refl W
 clear ht hf hfW hbW hW k1 hp0 hs hok hz hx hbl hins ja jf hj hy hc hxm hbb hyb hyo hop huf hur hrp hty hml hmi0
 generalize (usesOf y).all (fun r=>isSetL (parOf p.types x.sig) x.blocks r j m)=st at *
 generalize phiB (parOf p.types x.sig) x.blocks j m y=ph at *
 generalize rightB p x j m=ans at *
 generalize typedB p y (typesL p.types x (usesOf y))=td at *
 generalize typesL p.types x (usesOf y)=tl at *
 generalize typesB p.types x (usesOf y)=tb at *
 generalize usesOf y=us at *
 generalize (insAt x.blocks j).length=xl at *
 generalize x.blocks.length=nb at *
 obtain ⟨yop,yty,ya,yb,yn,yar,yfr⟩:=y
 simp only [ixV] at *
 generalize yar.length=q4 at *
 generalize yfr.length=q5 at *
 generalize p.types.length=n1 at *
 generalize p.funcs.length=n2 at *
 obtain ⟨W5,hW5⟩:∃ W5,W5=W.alloc (.cells #[.int .u8 yop,.int .i64 yty,.int .i64 ya,.int .i64 yb,.int .i64 yn,.slice aa q4 ac,.slice fa2 q5 fc2] 31):=⟨_,rfl⟩
 have k5:W5.heap[W.heap.size]?=some (.cells #[.int .u8 yop,.int .i64 yty,.int .i64 ya,.int .i64 yb,.int .i64 yn,.slice aa q4 ac,.slice fa2 q5 fc2] 31 (0,0)):=by rw [hW5];exact TyD.alloc_new _ _
 have a5:Aft W W5:=by rw [hW5];exact h0.alloc _
 rw [hWs] at k5
 have m0:∀ w',Aft W5 w'→w'.cell? ⟨w.heap.size+1,0,none⟩=some (.int .u8 yop):=later_cells k5 0 _ rfl
 have m1:∀ w',Aft W5 w'→w'.cell? ⟨w.heap.size+1,1,none⟩=some (.int .i64 yty):=later_cells k5 1 _ rfl
 have m2:∀ w',Aft W5 w'→w'.cell? ⟨w.heap.size+1,2,none⟩=some (.int .i64 ya):=later_cells k5 2 _ rfl
 have m3:∀ w',Aft W5 w'→w'.cell? ⟨w.heap.size+1,3,none⟩=some (.int .i64 yb):=later_cells k5 3 _ rfl
 have m4:∀ w',Aft W5 w'→w'.cell? ⟨w.heap.size+1,4,none⟩=some (.int .i64 yn):=later_cells k5 4 _ rfl
 have m5:∀ w',Aft W5 w'→w'.cell? ⟨w.heap.size+1,5,none⟩=some (.slice aa q4 ac):=later_cells k5 5 _ rfl
 have m6:∀ w',Aft W5 w'→w'.cell? ⟨w.heap.size+1,6,none⟩=some (.slice fa2 q5 fc2):=later_cells k5 6 _ rfl
 have HW5:=hid hW5
 have HA5:=hid a5
 clear hW5 k5
 go_enter Tryz.func77,Tryz.ntmps77
 go_upto_region 1 with fail
 rw [← HW.out]
 go_upto_region 2 with fail
 rw [← HW5.out]
 have r0:=fun w' (h:Aft W5 w')=>l0 w' (a5.trans h)
 have r1:=fun w' (h:Aft W5 w')=>l1 w' (a5.trans h)
 have hD:=(Aft.refl W5).drew
 clear l0 l1 d0 d1 z0 z1 z2 z3 z4 i0 i1 i2 i3 i4 i5 i6 HW HW5 hWs h0 a5
 go_region_held3 (fun w'=>Aft W5 w') (first | exact (hD.go hbq).go hbp | exact hD.go hbq | exact hD)
  (first
   | ((go_at_call 127;(with_reducible refine (HUS.out _ (HA5.out.trans hD)).mono ?_);rintro e wq ⟨u,mm,rfl,hu,hbq⟩))
   | ((go_at_call 126;(with_reducible refine (HTP.out _ _ (HA5.out.trans (hD.go hbq)) (intsAt_of_owns hu (by have:=HUL.out;omega))).mono ?_);rintro e wp ⟨ut,rfl,hut,hbp⟩)))
 all_goals
  obtain ⟨W6,hW6⟩:∃ W6:World,W6=wp:=⟨_,rfl⟩
  have h6:=(hD.go hbq).go hbp
  rw [← hW6] at hut h6 ⊢
  have HUT:=hid hut
  clear hW6 hu hbq hbp HTP hD hut
  cases tb with
  | false =>
   clear HTD HAS HPH
   go_wp2
   go_ret
   exact ⟨by rw [HRB.out];first | done | rfl,(HA5.out.trans h6).out HBW.out⟩
  | true =>
  have HTD2:=hid (HTD.out rfl ut W6 (HA5.out.trans h6) HUT.out)
  clear HTD HUT
  go_wp2_with fail
  refine HTD2.out.mono ?_
  rintro e w7 ⟨rfl,hb7⟩
  have h7:=h6.go hb7
  clear HTD2 hb7 h6
  cases td with
  | false =>
   clear HAS HPH
   go_wp2
   go_ret
   exact ⟨by rw [HRB.out];first | done | rfl,(HA5.out.trans h7).out HBW.out⟩
  | true =>
  by_cases h22:yop=22
  ·have e22:(yop == 22)=true:=by simpa using h22
   have HPH2:=hid (HPH.out h22 _ (HA5.out.trans h7))
   rw [if_pos h22] at HRB
   clear h22 HPH HAS HUS
   go_wp2_with fail
   refine HPH2.out.mono ?_
   rintro e w8 ⟨rfl,hb8⟩
   have h8:=h7.go hb8
   clear HPH2 hb8
   go_wp2
   go_ret
   exact ⟨by rw [HRB.out];first | done | rfl,(HA5.out.trans h8).out HBW.out⟩
  ·have e22:(yop == 22)=false:=by simpa using h22
   rw [if_neg h22] at HRB
   clear h22 HPH
   go_wp2_with fail
   have hE:=h7.drew
   go_region_held3 (fun w'=>Aft W5 w') (first | exact (hE.go hb8).go hb9 | exact hE.go hb8 | exact hE)
    (first
     | ((go_at_call 127;(with_reducible refine (HUS.out _ (HA5.out.trans hE)).mono ?_);rintro e w8 ⟨u8,mm8,rfl,hu8,hb8⟩))
     | ((go_at_call 130;(with_reducible refine (HAS.out _ _ (HA5.out.trans (hE.go hb8)) (intsAt_of_owns hu8 (by have:=HUL.out;omega))).mono ?_);rintro e w9 ⟨rfl,hb9⟩)))
   all_goals
    go_wp2
    go_ret
    exact ⟨by rw [HRB.out];first | done | rfl,(HA5.out.trans ((hE.go hb8).go hb9)).out HBW.out⟩
end Go.Proofs.YtpejpnffcepdlaaGreatDoor.SwR
namespace Go.Proofs.YtpejpnffcepdlaaGreatDoor.SwE
open Go.RowKit Go.Lib RwO SetP IntO TyM TyP TyB TyC TyRA TyRE ShM ShP ShA ShB ShC ShE ShRA ShH ShI ShJ ShK ShL ShRG ShRH ShRI ShBP ShW Aft FwM FwC FwP FwQ FwR FvA FvB FdM FdQ FdE LvM LuM SvQ SvP SwA SwM SwT SwU SwR RgZ IntG BlkG

theorem ends_few (x:Ex):(endsOf x).length≤1:=by unfold endsOf;split<;>simp

theorem end_calls (p:Px) (k:Nat) (x:Fx) (j:Nat) (v:Value) (w:World) (hp:PrAt w v p) (hs:Small p) (hok:POk p) (hz:findP p k=0) (hx:Has1 p k k x) (hj:j < x.blocks.length) :
  Calls Tryz.prog 78 #[v,.int .i64 (k:Int),.int .i64 (j:Int)] w (BoolR (SvQ.endB p x j) w):=by
 have hc:=(find_zero hz).1
 have hxm:=List.mem_of_getElem? hx.at_
 have hR:=regs_of hc hok hxm
 have hbm:x.blocks[j]∈x.blocks:=List.getElem_mem hj
 have eE:endAt x.blocks j=x.blocks[j].en:=by unfold endAt;rw [List.getElem?_eq_getElem hj];rfl
 have hop:0≤(endAt x.blocks j).kind∧(endAt x.blocks j).kind≤255:=by rw [eE];exact (hok x hxm _ hbm).1
 have hur:∀ r∈endsOf (endAt x.blocks j),0≤r∧r < ((parOf p.types x.sig+manyB x.blocks:Nat):Int):=by rw [eE];exact hR.ends _ hbm
 have hrp:∀ r∈endsOf (endAt x.blocks j),placeE p k r=0:=fun r h=>place_zero hz hx (hur r h)
 have hef:=ends_few (endAt x.blocks j)
 have hp0:=hp
 obtain ⟨vt,vf,rfl,ht,hf⟩:=hp
 obtain ⟨W,hW⟩:∃ W,W=w.alloc (.cells #[vt,vf] 27):=⟨_,rfl⟩
 have hbW:Below w.heap.size w W:=by rw [hW];exact alloc_below _ _
 have k1:W.heap[w.heap.size]?=some (.cells #[vt,vf] 27 (0,0)):=by rw [hW];exact alloc_new _ _
 have hWs:W.heap.size=w.heap.size+1:=by rw [hW];simp
 have HP:=hid (hp0.below hbW)
 have HTY:=hid (ht.below hbW)
 have hfW:=hf.below fnStays hbW
 obtain ⟨ta,tc,rfl⟩:=ht.slice
 obtain ⟨fa,fc,rfl,_⟩:=hf.slice
 obtain ⟨fb,foff,fcap,ao,bc,he,d0,d1,hbl⟩:=fn_later hfW hx
 cases he
 have hs0:=hx.sig0
 have hs1:=hx.sig1
 obtain ⟨sn,hsn⟩:∃ sn:Nat,x.sig=sn:=⟨x.sig.toNat,by omega⟩
 have hsl:sn < p.types.length:=by omega
 have hsi:(sn:Int) < (p.types.length:Int):=by omega
 obtain ⟨tg,toff,_,_,rfl,_,te,_⟩:=ty_later HTY.out sn hsl
 rw [hsn] at d0
 have l0:∀ w',Aft W w'→w'.cell? ⟨w.heap.size,0,none⟩=some (.slice (some ⟨tg,toff,none⟩) p.types.length tc):=later_cells k1 0 _ rfl
 have l1:∀ w',Aft W w'→w'.cell? ⟨w.heap.size,1,none⟩=some (.slice (some ⟨fb,foff,none⟩) p.funcs.length fc):=later_cells k1 1 _ rfl
 have hkl:=hx.lt
 have hki:(k:Int) < (p.funcs.length:Int):=by omega
 have hji:(j:Int) < (x.blocks.length:Int):=by omega
 obtain ⟨gb,goff,xa,xc,rfl,z0,_,z1,z2,z3,z4⟩:=blk_ins hbl hj
 have HUS:=hid (fun wx=>endsR_calls (endAt x.blocks j) wx hop.1 hop.2)
 have HTO:=hid (fun wx=>FvA.to_calls (endAt x.blocks j) wx)
 have HTP:=hid (fun u wx (h:Aft W wx) (hu:IntsAt wx u (endsOf (endAt x.blocks j)))=>types_calls p k x (endsOf (endAt x.blocks j)) _ u wx (HP.out.below h.below) hs hok hx hur hu (by omega))
 have HAS:=hid (fun u wx (h:Aft W wx) (hu:IntsAt wx u (endsOf (endAt x.blocks j)))=>allSet_calls p k j ((insAt x.blocks j).length:Nat) (endsOf (endAt x.blocks j)) _ u wx (HP.out.below h.below) hs hok hz hrp ⟨by omega,by rw [fn_blocks hx];omega⟩ hu (by omega))
 rw [fn_eq hx,fn_blocks hx] at HAS
 have HIN:=hid (fun u wx (hu:IntsAt wx u (toE (endAt x.blocks j)))=>FvA.in_calls u (toE (endAt x.blocks j)) 0 wx hu)
 have HTN:=hid (fun (hb:typesB p.types x (endsOf (endAt x.blocks j))=true) n (hn:n∈typesL p.types x (endsOf (endAt x.blocks j)))=>show n < p.types.length by rw [types_map hb] at hn;obtain ⟨r,hr,rfl⟩:=List.mem_map.1 hn;exact type_lt hc hok hxm (hur r hr).1 (hur r hr).2)
 have HTL:=hid (fun (hb:typesB p.types x (endsOf (endAt x.blocks j))=true) (hk:(endAt x.blocks j).kind=2∨(endAt x.blocks j).kind=3)=>show 0 < (typesL p.types x (endsOf (endAt x.blocks j))).length by rw [types_map hb,List.length_map];unfold endsOf;rw [if_pos hk];simp)
 have HTE:=hid (toE_len (endAt x.blocks j))
 have HRB:Hid (SvQ.endB p x j=(typesB p.types x (endsOf (endAt x.blocks j)) && (((endsOf (endAt x.blocks j)).all fun r=>isSetL (parOf p.types x.sig) x.blocks r j (insAt x.blocks j).length) && (!decide ((0:Int)∈toE (endAt x.blocks j)) &&
   (if (endAt x.blocks j).kind=2 then isK p.types ((typesL p.types x (endsOf (endAt x.blocks j))).getD 0 0) 1 else if (endAt x.blocks j).kind=3 then decide ((typesL p.types x (endsOf (endAt x.blocks j))).getD 0 0=(tyN p.types sn).elem) else true))))):=by
  show _=_
  unfold SvQ.endB
  rw [hsn,decide_not]
  rfl
 have HUL:=hid hef
 have HBW:=hid hbW
 have HW:=hid hW
 have h0:=Aft.refl W
 clear ht hf hfW hbW hW k1 hp0 hs hok hz hx hbl hj hc hxm hR hbm eE hop hur hrp hef hsn hs0 hs1 HTY
 generalize (endsOf (endAt x.blocks j)).all (fun r=>isSetL (parOf p.types x.sig) x.blocks r j (insAt x.blocks j).length)=st at *
 generalize SvQ.endB p x j=ans at *
 generalize typesL p.types x (endsOf (endAt x.blocks j))=tl at *
 generalize typesB p.types x (endsOf (endAt x.blocks j))=tb at *
 generalize endsOf (endAt x.blocks j)=us at *
 generalize toE (endAt x.blocks j)=tos at *
 generalize (insAt x.blocks j).length=xl at *
 generalize endAt x.blocks j=en at *
 generalize x.blocks.length=nb at *
 generalize (tyN p.types sn).elem=se at *
 obtain ⟨ek,ea,et,ee⟩:=en
 simp only [exV] at *
 obtain ⟨W5,hW5⟩:∃ W5,W5=W.alloc (.cells #[.slice xa xl xc,.int .u8 ek,.int .i64 ea,.int .i64 et,.int .i64 ee] 38):=⟨_,rfl⟩
 have k5:W5.heap[W.heap.size]?=some (.cells #[.slice xa xl xc,.int .u8 ek,.int .i64 ea,.int .i64 et,.int .i64 ee] 38 (0,0)):=by rw [hW5];exact TyD.alloc_new _ _
 have a5:Aft W W5:=by rw [hW5];exact h0.alloc _
 rw [hWs] at k5
 have m0:∀ w',Aft W5 w'→w'.cell? ⟨w.heap.size+1,0,none⟩=some (.slice xa xl xc):=later_cells k5 0 _ rfl
 have m1:∀ w',Aft W5 w'→w'.cell? ⟨w.heap.size+1,1,none⟩=some (.int .u8 ek):=later_cells k5 1 _ rfl
 have m2:∀ w',Aft W5 w'→w'.cell? ⟨w.heap.size+1,2,none⟩=some (.int .i64 ea):=later_cells k5 2 _ rfl
 have m3:∀ w',Aft W5 w'→w'.cell? ⟨w.heap.size+1,3,none⟩=some (.int .i64 et):=later_cells k5 3 _ rfl
 have m4:∀ w',Aft W5 w'→w'.cell? ⟨w.heap.size+1,4,none⟩=some (.int .i64 ee):=later_cells k5 4 _ rfl
 have HW5:=hid hW5
 have HA5:=hid a5
 clear hW5 k5
 go_enter Tryz.func78,Tryz.ntmps78
 go_upto_region 1 with fail
 rw [← HW.out]
 go_upto_region 2 with fail
 rw [← HW5.out]
 have r0:=fun w' (h:Aft W5 w')=>l0 w' (a5.trans h)
 have r1:=fun w' (h:Aft W5 w')=>l1 w' (a5.trans h)
 have r2:=fun w' (h:Aft W5 w')=>d0 w' (a5.trans h)
 have r3:=fun w' (h:Aft W5 w')=>te w' (a5.trans h)
 have hD:=(Aft.refl W5).drew
 clear l0 l1 d0 d1 te z0 z1 z2 z3 z4 HW HW5 hWs h0 a5
 go_region_held3 (fun w'=>Aft W5 w') (first | exact (hD.go hbq).go hbp | exact hD.go hbq | exact hD)
  (first
   | ((go_at_call 131;(with_reducible refine (HUS.out _).mono ?_);rintro e wq ⟨u,mm,rfl,hu,hbq⟩))
   | ((go_at_call 126;(with_reducible refine (HTP.out _ _ (HA5.out.trans (hD.go hbq)) (intsAt_of_owns hu (by have:=HUL.out;omega))).mono ?_);rintro e wp ⟨ut,rfl,hut,hbp⟩)))
 all_goals
  obtain ⟨W6,hW6⟩:∃ W6:World,W6=wp:=⟨_,rfl⟩
  have h6:=(hD.go hbq).go hbp
  rw [← hW6] at hut h6 ⊢
  have HUT:=hid hut
  clear hW6 hu hbq hbp HTP hD hut
  have hE:=h6.drew
  go_upto_region 3 with fail
  cases tb with
  | false =>
   refine wp_region_noPanic ?_
   refine wp_region_Z (S:=(fun w'=>Aft W5 w')) (Z:=[]) (by kernel_rfl) ?_ (fun hHeld=>?_)
   ·(try dsimp only)
    (exact hE)
   refine zP 0 rfl ?_
   refine zC 1 rfl (fun K hK=>?_)
   go_simp
   refine hK.out _ _ ?_ (fun hHeld=>?_)
   ·(try dsimp only)
    (exact hE)
   clear hK K
   refine zP 2 rfl ?_
   refine zU 3 rfl ?_
   refine zU 4 rfl ?_
   refine zU 5 rfl ?_
   refine zU 6 rfl ?_
   refine zU 7 rfl ?_
   refine zU 8 rfl ?_
   refine zU 9 rfl ?_
   refine zU 10 rfl ?_
   refine zU 11 rfl ?_
   refine zU 12 rfl ?_
   refine zU 13 rfl ?_
   refine zC 14 rfl (fun K hK=>?_)
   go_simp
   refine hK.out _ _ ?_ (fun hHeld=>?_)
   ·(try dsimp only)
    (exact hE)
   clear hK K
   refine zP 15 rfl ?_
   refine zU 16 rfl ?_
   refine zU 17 rfl ?_
   refine zU 18 rfl ?_
   refine zU 19 rfl ?_
   refine zC 20 rfl (fun K hK=>?_)
   go_simp
   refine hK.out _ _ ?_ (fun hHeld=>?_)
   ·(try dsimp only)
    (exact hE)
   clear hK K
   try simp only [Act.put,List.setIfInBounds_toArray,List.set_cons_zero,List.set_cons_succ]
   refine wpAnyZ_done (by kernel_rfl) ?_ _
   refine NoPanic.normal ?_
   (try simp only [Exit.then])
   go_wp2
   go_ret
   exact ⟨by rw [HRB.out];first | done | rfl,(HA5.out.trans hE).out HBW.out⟩
  | true =>
  cases st with
  | false =>
   refine wp_region_noPanic ?_
   refine wp_region_Z (S:=(fun w'=>Aft W5 w')) (Z:=[]) (by kernel_rfl) ?_ (fun hHeld=>?_)
   ·(try dsimp only)
    (exact hE)
   refine zP 0 rfl ?_
   refine zC 1 rfl (fun K hK=>?_)
   go_simp
   refine hK.out _ _ ?_ (fun hHeld=>?_)
   ·(try dsimp only)
    (exact hE)
   clear hK K
   refine zP 2 rfl ?_
   refine zT 3 rfl ?_
   refine zP 4 rfl ?_
   refine zP 5 rfl ?_
   refine zT 6 rfl ?_
   refine zP 8 rfl ?_
   refine zP 9 rfl ?_
   refine zT 10 rfl ?_
   refine zT 11 rfl ?_
   refine zC 7 rfl (fun K hK=>?_)
   go_simp
   (with_reducible refine (HUS.out _).mono ?_)
   rintro e wa ⟨ua,ma,rfl,hua,hba⟩
   refine hK.out _ _ ?_ (fun hHeld=>?_)
   ·(try dsimp only)
    (exact (hE.go hba))
   clear hK K
   refine zC 12 rfl (fun K hK=>?_)
   go_simp
   (with_reducible refine (HAS.out _ _ (HA5.out.trans (hE.go hba)) (intsAt_of_owns hua (by have:=HUL.out;omega))).mono ?_)
   rintro e wb ⟨rfl,hbb⟩
   refine hK.out _ _ ?_ (fun hHeld=>?_)
   ·(try dsimp only)
    (exact ((hE.go hba).go hbb))
   clear hK K
   refine zC 13 rfl (fun K hK=>?_)
   go_simp
   refine hK.out _ _ ?_ (fun hHeld=>?_)
   ·(try dsimp only)
    (exact ((hE.go hba).go hbb))
   clear hK K
   refine zC 14 rfl (fun K hK=>?_)
   go_simp
   refine hK.out _ _ ?_ (fun hHeld=>?_)
   ·(try dsimp only)
    (exact ((hE.go hba).go hbb))
   clear hK K
   refine zP 15 rfl ?_
   refine zU 16 rfl ?_
   refine zU 17 rfl ?_
   refine zU 18 rfl ?_
   refine zU 19 rfl ?_
   refine zC 20 rfl (fun K hK=>?_)
   go_simp
   refine hK.out _ _ ?_ (fun hHeld=>?_)
   ·(try dsimp only)
    (exact ((hE.go hba).go hbb))
   clear hK K
   try simp only [Act.put,List.setIfInBounds_toArray,List.set_cons_zero,List.set_cons_succ]
   refine wpAnyZ_done (by kernel_rfl) ?_ _
   refine NoPanic.normal ?_
   (try simp only [Exit.then])
   go_wp2
   go_ret
   exact ⟨by rw [HRB.out];first | done | rfl,(HA5.out.trans ((hE.go hba).go hbb)).out HBW.out⟩
  | true =>
  cases hin:decide ((0:Int)∈tos) with
  | true =>
   rw [hin] at HRB HIN
   refine wp_region_noPanic ?_
   refine wp_region_Z (S:=(fun w'=>Aft W5 w')) (Z:=[]) (by kernel_rfl) ?_ (fun hHeld=>?_)
   ·(try dsimp only)
    (exact hE)
   refine zP 0 rfl ?_
   refine zC 1 rfl (fun K hK=>?_)
   go_simp
   refine hK.out _ _ ?_ (fun hHeld=>?_)
   ·(try dsimp only)
    (exact hE)
   clear hK K
   refine zP 2 rfl ?_
   refine zT 3 rfl ?_
   refine zP 4 rfl ?_
   refine zP 5 rfl ?_
   refine zT 6 rfl ?_
   refine zP 8 rfl ?_
   refine zP 9 rfl ?_
   refine zT 10 rfl ?_
   refine zT 11 rfl ?_
   refine zC 7 rfl (fun K hK=>?_)
   go_simp
   (with_reducible refine (HUS.out _).mono ?_)
   rintro e wa ⟨ua,ma,rfl,hua,hba⟩
   refine hK.out _ _ ?_ (fun hHeld=>?_)
   ·(try dsimp only)
    (exact (hE.go hba))
   clear hK K
   refine zC 12 rfl (fun K hK=>?_)
   go_simp
   (with_reducible refine (HAS.out _ _ (HA5.out.trans (hE.go hba)) (intsAt_of_owns hua (by have:=HUL.out;omega))).mono ?_)
   rintro e wb ⟨rfl,hbb⟩
   refine hK.out _ _ ?_ (fun hHeld=>?_)
   ·(try dsimp only)
    (exact ((hE.go hba).go hbb))
   clear hK K
   refine zC 13 rfl (fun K hK=>?_)
   go_simp
   refine hK.out _ _ ?_ (fun hHeld=>?_)
   ·(try dsimp only)
    (exact ((hE.go hba).go hbb))
   clear hK K
   refine zC 14 rfl (fun K hK=>?_)
   go_simp
   refine hK.out _ _ ?_ (fun hHeld=>?_)
   ·(try dsimp only)
    (exact ((hE.go hba).go hbb))
   clear hK K
   refine zP 15 rfl ?_
   refine zP 16 rfl ?_
   refine zT 17 rfl ?_
   refine zC 18 rfl (fun K hK=>?_)
   go_simp
   (with_reducible refine (HTO.out _).mono ?_)
   rintro e wc ⟨uc,mc,rfl,huc,hbc⟩
   refine hK.out _ _ ?_ (fun hHeld=>?_)
   ·(try dsimp only)
    (exact (((hE.go hba).go hbb).go hbc))
   clear hK K
   refine zC 19 rfl (fun K hK=>?_)
   go_simp
   (with_reducible refine (HIN.out _ _ (intsAt_of_owns huc (by have:=HTE.out;omega))).mono ?_)
   rintro e wd ⟨rfl,hbd⟩
   refine hK.out _ _ ?_ (fun hHeld=>?_)
   ·(try dsimp only)
    (exact ((((hE.go hba).go hbb).go hbc).go hbd))
   clear hK K
   refine zC 20 rfl (fun K hK=>?_)
   go_simp
   refine hK.out _ _ ?_ (fun hHeld=>?_)
   ·(try dsimp only)
    (exact ((((hE.go hba).go hbb).go hbc).go hbd))
   clear hK K
   try simp only [Act.put,List.setIfInBounds_toArray,List.set_cons_zero,List.set_cons_succ]
   refine wpAnyZ_done (by kernel_rfl) ?_ _
   refine NoPanic.normal ?_
   (try simp only [Exit.then])
   go_wp2
   go_ret
   exact ⟨by rw [HRB.out];first | done | rfl,(HA5.out.trans ((((hE.go hba).go hbb).go hbc).go hbd)).out HBW.out⟩
  | false =>
   rw [hin] at HRB HIN
   refine wp_region_noPanic ?_
   refine wp_region_Z (S:=(fun w'=>Aft W5 w')) (Z:=[]) (by kernel_rfl) ?_ (fun hHeld=>?_)
   ·(try dsimp only)
    (exact hE)
   refine zP 0 rfl ?_
   refine zC 1 rfl (fun K hK=>?_)
   go_simp
   refine hK.out _ _ ?_ (fun hHeld=>?_)
   ·(try dsimp only)
    (exact hE)
   clear hK K
   refine zP 2 rfl ?_
   refine zT 3 rfl ?_
   refine zP 4 rfl ?_
   refine zP 5 rfl ?_
   refine zT 6 rfl ?_
   refine zP 8 rfl ?_
   refine zP 9 rfl ?_
   refine zT 10 rfl ?_
   refine zT 11 rfl ?_
   refine zC 7 rfl (fun K hK=>?_)
   go_simp
   (with_reducible refine (HUS.out _).mono ?_)
   rintro e wa ⟨ua,ma,rfl,hua,hba⟩
   refine hK.out _ _ ?_ (fun hHeld=>?_)
   ·(try dsimp only)
    (exact (hE.go hba))
   clear hK K
   refine zC 12 rfl (fun K hK=>?_)
   go_simp
   (with_reducible refine (HAS.out _ _ (HA5.out.trans (hE.go hba)) (intsAt_of_owns hua (by have:=HUL.out;omega))).mono ?_)
   rintro e wb ⟨rfl,hbb⟩
   refine hK.out _ _ ?_ (fun hHeld=>?_)
   ·(try dsimp only)
    (exact ((hE.go hba).go hbb))
   clear hK K
   refine zC 13 rfl (fun K hK=>?_)
   go_simp
   refine hK.out _ _ ?_ (fun hHeld=>?_)
   ·(try dsimp only)
    (exact ((hE.go hba).go hbb))
   clear hK K
   refine zC 14 rfl (fun K hK=>?_)
   go_simp
   refine hK.out _ _ ?_ (fun hHeld=>?_)
   ·(try dsimp only)
    (exact ((hE.go hba).go hbb))
   clear hK K
   refine zP 15 rfl ?_
   refine zP 16 rfl ?_
   refine zT 17 rfl ?_
   refine zC 18 rfl (fun K hK=>?_)
   go_simp
   (with_reducible refine (HTO.out _).mono ?_)
   rintro e wc ⟨uc,mc,rfl,huc,hbc⟩
   refine hK.out _ _ ?_ (fun hHeld=>?_)
   ·(try dsimp only)
    (exact (((hE.go hba).go hbb).go hbc))
   clear hK K
   refine zC 19 rfl (fun K hK=>?_)
   go_simp
   (with_reducible refine (HIN.out _ _ (intsAt_of_owns huc (by have:=HTE.out;omega))).mono ?_)
   rintro e wd ⟨rfl,hbd⟩
   refine hK.out _ _ ?_ (fun hHeld=>?_)
   ·(try dsimp only)
    (exact ((((hE.go hba).go hbb).go hbc).go hbd))
   clear hK K
   refine zC 20 rfl (fun K hK=>?_)
   go_simp
   refine hK.out _ _ ?_ (fun hHeld=>?_)
   ·(try dsimp only)
    (exact ((((hE.go hba).go hbb).go hbc).go hbd))
   clear hK K
   try simp only [Act.put,List.setIfInBounds_toArray,List.set_cons_zero,List.set_cons_succ]
   refine wpAnyZ_done (by kernel_rfl) ?_ _
   refine NoPanic.normal ?_
   (try simp only [Exit.then])
   obtain ⟨W7,hW7⟩:∃ W7:World,W7=wd:=⟨_,rfl⟩
   have h7:=(((hE.go hba).go hbb).go hbc).go hbd
   have HU7:=hid (HUT.out.below ((((Aft.refl W6).drew.go hba).go hbb |>.go hbc).go hbd).below)
   rw [← hW7] at h7 HU7 ⊢
   clear hW7 hua hba hbb huc hbc hbd hE HUT
   by_cases k2:ek=2
   ·subst k2
    rw [if_pos rfl] at HRB
    have hl0:=HTL.out rfl (.inl rfl)
    have hm0:=HTN.out rfl _ (List.mem_of_getElem? (getD_at hl0))
    obtain ⟨ua,uc,rfl,_⟩:=ints_slice HU7.out
    obtain ⟨qb,qo,rfl,c0⟩:=int_at HU7.out (getD_at hl0)
    have n0:=later c0
    rw [Nat.add_zero] at n0
    have hl0i:(0:Int) < (tl.length:Int):=by omega
    have HI:=hid (fun wx (h:Aft W5 wx)=>is_calls p (tl.getD 0 0) 1 _ wx (HP.out.below (HA5.out.trans h).below) hm0)
    have n0':=fun w' (h:Aft W7 w')=>n0 w' h
    have q0:=fun w' (h:Aft W7 w')=>r0 w' (h7.trans h)
    have q1:=fun w' (h:Aft W7 w')=>r1 w' (h7.trans h)
    have hF:=(Aft.refl W7).drew
    clear c0 n0 HTL HTN HU7 hin
    generalize isK p.types (tl.getD 0 0) 1=b1 at *
    generalize tl.getD 0 0=u0 at *
    generalize tl.length=q3 at *
    go_wp2_with fail
    go_region_held3 (fun w'=>Aft W7 w') (first | exact hF.go hb9 | exact hF)
     ((go_at_call 37;(with_reducible refine (HI.out _ (h7.trans hF)).mono ?_);rintro e w9 ⟨rfl,hb9⟩))
    all_goals
     go_wp2
     go_ret
     exact ⟨by rw [HRB.out];first | done | rfl,(HA5.out.trans (h7.trans (hF.go hb9))).out HBW.out⟩
   rw [if_neg k2] at HRB
   have e2:(ek == 2)=false:=by simpa using k2
   by_cases k3:ek=3
   ·subst k3
    rw [if_pos rfl] at HRB
    have hl0:=HTL.out rfl (.inr rfl)
    obtain ⟨ua,uc,rfl,_⟩:=ints_slice HU7.out
    obtain ⟨qb,qo,rfl,c0⟩:=int_at HU7.out (getD_at hl0)
    have n0:=later c0
    rw [Nat.add_zero] at n0
    have hl0i:(0:Int) < (tl.length:Int):=by omega
    have HX:Hid ((tl.getD 0 0 == se)=decide (tl.getD 0 0=se)):=by show _=_;rw [Bool.eq_iff_iff];simp
    have n0':=fun w' (h:Aft W7 w')=>n0 w' h
    have q0:=fun w' (h:Aft W7 w')=>r0 w' (h7.trans h)
    have q1:=fun w' (h:Aft W7 w')=>r1 w' (h7.trans h)
    have q2:=fun w' (h:Aft W7 w')=>r2 w' (h7.trans h)
    have q3':=fun w' (h:Aft W7 w')=>r3 w' (h7.trans h)
    have hF:=(Aft.refl W7).drew
    rw [← HX.out] at HRB
    clear c0 n0 HTL HTN HU7 hin HX k2
    generalize tl.getD 0 0=u0 at *
    generalize tl.length=q3 at *
    go_wp2_with fail
    go_region_held3 (fun w'=>Aft W7 w') (exact hF) (fail)
    all_goals
     go_wp2
     go_ret
     exact ⟨by rw [HRB.out];first | done | rfl,(HA5.out.trans (h7.trans hF)).out HBW.out⟩
   rw [if_neg k3] at HRB
   have e3:(ek == 3)=false:=by simpa using k3
   clear HTL HTN HU7 hin k2 k3
   go_wp2
   go_ret
   exact ⟨by rw [HRB.out];first | done | rfl,(HA5.out.trans h7).out HBW.out⟩
end Go.Proofs.YtpejpnffcepdlaaGreatDoor.SwE
namespace Go.Proofs.YtpejpnffcepdlaaGreatDoor.SwF
open Go.RowKit Go.Lib RwO SetP IntO TyM TyP TyB TyC TyRA TyRE ShM ShP ShA ShB ShC ShE ShRA ShH ShI ShJ ShK ShL ShRG ShRH ShRI ShBP Aft FwM FwC FwP FwQ FwR FvA FvB FvE FdM FdQ FdE LvM LuM SvQ SvP SwA SwM SwT SwU SwR SwE IntG BlkG

def UpTo (q:Nat→Bool) (n:Nat):Prop:=∀ i,i < n→q i=true
theorem upTo_zero (q:Nat→Bool):UpTo q 0:=fun i h=>absurd h (by omega)
theorem upTo_next {q:Nat→Bool} {n:Nat} (h:UpTo q n) (hq:q n=true):UpTo q (n+1):=by
 intro i hi
 by_cases e:i=n
 ·rw [e];exact hq
 ·exact h i (by omega)
theorem upTo_all {q:Nat→Bool} {n:Nat} (h:UpTo q n):(List.range n).all q=true:=by
 rw [List.all_eq_true]
 intro i hi
 exact h i (List.mem_range.1 hi)
theorem upTo_not {q:Nat→Bool} {i n:Nat} (hi:i < n) (hq:q i=false):(List.range n).all q=false:=by
 rw [← Bool.not_eq_true,List.all_eq_true]
 intro h
 rw [h i (List.mem_range.2 hi)] at hq
 cases hq

theorem fn_calls (p:Px) (k:Nat) (x:Fx) (v:Value) (w:World) (hp:PrAt w v p) (hs:Small p) (hok:POk p) (hz:findP p k=0) (hx:Has1 p k k x) :
  Calls Tryz.prog 36 #[v,.int .i64 (k:Int)] w (BoolR (fnB p x) w):=by
 have hc:=(find_zero hz).1
 have hxm:=List.mem_of_getElem? hx.at_
 have hR:=regs_of hc hok hxm
 obtain ⟨hlow,hpos,hl16⟩:=low_fn hok hz
 rw [fn_blocks hx] at hlow hpos hl16
 have hil:∀ b,b < x.blocks.length→(insAt x.blocks b).length≤128:=fun b hb=>by
  unfold insAt
  rw [List.getElem?_eq_getElem hb]
  exact Nat.le_trans (fewer (List.getElem_mem hb)) hR.many
 have hp0:=hp
 obtain ⟨vt,vf,rfl,ht,hf⟩:=hp
 obtain ⟨W,hW⟩:∃ W,W=w.alloc (.cells #[vt,vf] 27):=⟨_,rfl⟩
 have hbW:Below w.heap.size w W:=by rw [hW];exact alloc_below _ _
 have k1:W.heap[w.heap.size]?=some (.cells #[vt,vf] 27 (0,0)):=by rw [hW];exact alloc_new _ _
 have HP:=hid (hp0.below hbW)
 have hfW:=hf.below fnStays hbW
 obtain ⟨ta,tc,rfl⟩:=ht.slice
 obtain ⟨fa,fc,rfl,_⟩:=hf.slice
 obtain ⟨fb,foff,fcap,ao,bc,he,d0,d1,hbl⟩:=fn_later hfW hx
 cases he
 have l0:∀ w',Aft W w'→w'.cell? ⟨w.heap.size,0,none⟩=some (.slice ta p.types.length tc):=later_cells k1 0 _ rfl
 have l1:∀ w',Aft W w'→w'.cell? ⟨w.heap.size,1,none⟩=some (.slice (some ⟨fb,foff,none⟩) p.funcs.length fc):=later_cells k1 1 _ rfl
 have hkl:=hx.lt
 have hki:(k:Int) < (p.funcs.length:Int):=by omega
 have HRE:Hid (∀ wx,Aft W wx→Calls Tryz.prog 76 #[.slice ao x.blocks.length bc] wx (fun e w'=>∃ ua uc,e=.returned (.slice ua (reachedL x.blocks).length uc)∧Below wx.heap.size wx w')):=fun wx h=>(reached_calls x.blocks (.slice ao x.blocks.length bc) wx (hbl.below blkStays h.below) hlow hpos (by omega)).mono fun e w' hq=>by
  obtain ⟨u,h1,h2,h3⟩:=hq
  obtain ⟨ua,uc,rfl,_⟩:=ints_slice h2
  rw [ints_length] at h1
  exact ⟨ua,uc,h1,h3⟩
 have HRC:=hid (fun (b i:Nat) (hb:b < x.blocks.length) (hi:i < (insAt x.blocks b).length) (wx:World) (h:Aft W wx)=>right_calls p k x b i _ _ wx (HP.out.below h.below) hs hok hz hx hb (List.getElem?_eq_getElem hi) (hil b hb))
 have HEC:=hid (fun (b:Nat) (hb:b < x.blocks.length) (wx:World) (h:Aft W wx)=>end_calls p k x b _ wx (HP.out.below h.below) hs hok hz hx hb)
 obtain ⟨bb,boff,rfl⟩:∃ bb boff,ao=some ⟨bb,boff,none⟩:=by
  obtain ⟨gb,goff,_,_,hao,_⟩:=blk_ins hbl hpos
  exact ⟨gb,goff,hao⟩
 have HBI:Hid (∀ b,b < x.blocks.length→∃ xa xc,∀ w',Aft W w'→w'.cell? ⟨bb,boff+b * 5,none⟩=some (.slice xa (insAt x.blocks b).length xc)):=fun b hb=>by
  obtain ⟨gb,goff,xa,xc,he,z0,_⟩:=blk_ins hbl hb
  cases he
  exact ⟨xa,xc,z0⟩
 have HFB:Hid (fnB p x=(decide ((reachedL x.blocks).length=x.blocks.length) && (List.range x.blocks.length).all fun b=>((List.range (insAt x.blocks b).length).all fun i=>rightB p x b i) && SvQ.endB p x b)):=rfl
 have HIL:=hid hil
 have HN16:=hid hl16
 have HBW:=hid hbW
 have HW:=hid hW
 have h0:=Aft.refl W
 have h0d:=h0.drew
 clear ht hf hfW hbW hW k1 hp0 hs hok hz hx hbl hc hxm hR hlow hpos hl16 hil
 generalize fnB p x=ans at *
 generalize rightB p x=R at *
 generalize SvQ.endB p x=E at *
 generalize (reachedL x.blocks).length=rl at *
 obtain ⟨IL,hIL⟩:∃ IL:Nat→Nat,IL=fun b=>(insAt x.blocks b).length:=⟨_,rfl⟩
 have hIL2:∀ b,(insAt x.blocks b).length=IL b:=fun b=>by rw [hIL]
 simp only [hIL2] at HRC HBI HFB HIL
 clear hIL hIL2
 generalize x.blocks.length=nb at *
 generalize p.types.length=n1 at *
 generalize p.funcs.length=n2 at *
 by_cases hrl:rl=nb
 rotate_left
 ·have hq:((rl:Int) != (nb:Int))=true:=bne_iff_ne.2 (by omega)
  rw [decide_eq_false hrl,Bool.false_and] at HFB
  clear hrl HRC HEC HBI
  go_enter Tryz.func36,Tryz.ntmps36
  go_upto_region 1 with fail
  rw [← HW.out]
  go_region_held3 (fun w'=>Aft W w') (first | exact h0d.go hbq | exact h0d)
   ((go_at_call 76;(with_reducible refine (HRE.out _ h0d).mono ?_);rintro e wq ⟨ua,uc,rfl,hbq⟩))
  all_goals
   go_wp2
   go_ret
   exact ⟨by rw [HFB.out];first | done | rfl,(h0d.go hbq).out HBW.out⟩
 ·have hq:((rl:Int) != (nb:Int))=false:=by rw [hrl];simp
  rw [decide_eq_true hrl,Bool.true_and] at HFB
  clear hrl
  obtain ⟨G,hG⟩:∃ G:Nat→Bool,G=fun b=>((List.range (IL b)).all fun i=>R b i) && E b:=⟨_,rfl⟩
  rw [← hG] at HFB
  have HG:Hid (∀ b,G b=(((List.range (IL b)).all fun i=>R b i) && E b)):=fun b=>by rw [hG]
  have HGA:=hid (fun (h:UpTo G nb)=>upTo_all h)
  have HGN:=hid (fun b (h:b < nb) (hg:G b=false)=>upTo_not h hg)
  clear hG
  generalize (List.range nb).all G=ga at *
  go_enter Tryz.func36,Tryz.ntmps36
  go_upto_region 1 with fail
  rw [← HW.out]
  go_region_held3 (fun w'=>Aft W w') (first | exact h0d.go hbq | exact h0d)
   ((go_at_call 76;(with_reducible refine (HRE.out _ h0d).mono ?_);rintro e wq ⟨ua,uc,rfl,hbq⟩))
  all_goals
   have h1:=h0d.go hbq
   clear hbq h0 h0d HRE
   go_wp2_with fail
   go_loopg [5] nb (fun gk iv wr=>∃ b:Nat,b+gk=nb∧iv=.int .i64 b∧UpTo G b∧Aft W wr)
   case atStart=>exact ⟨0,by omega,rfl,upTo_zero _,h1⟩
   case round =>
    obtain ⟨b,hb,rfl,hup,hA⟩:=hrel
    have HBQ:=hid hb
    have HUP:=hid hup
    clear hb hup h1
    by_cases hbt:b < nb
    ·have HBT:=hid hbt
     obtain ⟨xa,xc,zc⟩:=HBI.out b hbt
     have HRB:=hid (fun i hi wx h=>HRC.out b i hbt hi wx h)
     have HEB:=hid (HEC.out b hbt)
     have HLB:=hid (HIL.out b hbt)
     have hbi:(b:Int) < (nb:Int):=by omega
     have hbb:b≤9223372036854775806:=by have:=HN16.out;omega
     have HNX:=hid (fun h=>upTo_next HUP.out h)
     have HNO:=hid (fun h=>HGN.out b hbt h)
     have HGB:=hid (HG.out b)
     have HQA:=hid (fun (h:UpTo (R b) (IL b))=>upTo_all h)
     have HQN:=hid (fun i (h:i < IL b) (hg:R b i=false)=>upTo_not h hg)
     obtain ⟨g1,hg1⟩:∃ g1:Nat,g1=gk:=⟨gk,rfl⟩
     subst hg1
     clear HRC HEC HBI HIL HGN HG HUP HGA
     generalize (List.range (IL b)).all (fun i=>R b i)=qa at *
     generalize hRb:R b=Rb at *
     generalize IL b=il at *
     clear hRb
     go_wp2_with fail
     go_loopg [6] il (fun gk jv wr=>∃ i:Nat,i+gk=il∧jv=.int .i64 i∧UpTo Rb i∧Aft W wr)
     case atStart=>exact ⟨0,by omega,rfl,upTo_zero _,hA⟩
     case round =>
      obtain ⟨i,hi,rfl,hui,hA2⟩:=hrel
      have HI:=hid hi
      have HUI:=hid hui
      clear hi hui hA
      by_cases hit:i < il
      ·have HIT:=hid hit
       have HR1:=hid (HRB.out i hit)
       have hii:(i:Int) < (il:Int):=by omega
       have hib:i≤9223372036854775806:=by have:=HLB.out;omega
       have HN1:=hid (fun h=>upTo_next HUI.out h)
       have HN2:=hid (fun h=>HQN.out i hit h)
       clear HRB HEB HQA HQN HUI
       generalize Rb i=rbi at *
       go_wp2_with fail
       refine (HR1.out _ hA2).mono ?_
       rintro e w5 ⟨rfl,hb5⟩
       have h5:=hA2.go hb5
       clear HR1 hb5 hA2
       cases hrb:rbi with
       | true =>
        have HX:=hid (HN1.out hrb)
        clear hrb
        go_wp2
        go_roundg (gk - 1)
        case measure=>have:=HI.out;have:=HIT.out;omega
        case rel=>exact ⟨i+1,by have:=HI.out;have:=HIT.out;omega,by go_num,HX.out,h5⟩
       | false =>
        have HX:=hid (HN2.out hrb)
        rw [HX.out,Bool.false_and] at HGB
        have HY:=hid (HNO.out HGB.out)
        clear hrb HX
        go_wp2
        go_ret
        exact ⟨by rw [HFB.out,HY.out];first | done | rfl,h5.out HBW.out⟩
      ·obtain rfl:i=il:=by have:=HI.out;omega
       have HX:=hid (HQA.out HUI.out)
       rw [HX.out,Bool.true_and] at HGB
       clear HUI hit HQA HQN HX HRB
       go_wp2_with fail
       refine (HEB.out _ hA2).mono ?_
       rintro e w5 ⟨rfl,hb5⟩
       have h5:=hA2.go hb5
       clear HEB hb5 hA2
       cases heb:E b with
       | true =>
        have HX:=hid (HNX.out (HGB.out.trans heb))
        clear heb
        go_wp2
        go_roundg (g1 - 1)
        case measure=>have:=HBQ.out;have:=HBT.out;omega
        case rel=>exact ⟨b+1,by have:=HBQ.out;have:=HBT.out;omega,by go_num,HX.out,h5⟩
       | false =>
        have HY:=hid (HNO.out (HGB.out.trans heb))
        clear heb
        go_wp2
        go_ret
        exact ⟨by rw [HFB.out,HY.out];first | done | rfl,h5.out HBW.out⟩
    ·obtain rfl:b=nb:=by have:=HBQ.out;omega
     have HX:=hid (HGA.out HUP.out)
     clear hbt HRC HEC HBI HIL HGN HG HUP HGA
     go_wp2
     go_ret
     exact ⟨by rw [HFB.out,HX.out];first | done | rfl,hA.out HBW.out⟩
end Go.Proofs.YtpejpnffcepdlaaGreatDoor.SwF
namespace Go.Proofs.YtpejpnffcepdlaaGreatDoor.SwC
open Go.RowKit Go.Lib RwO SetP IntO TyM TyP TyB TyC TyRA TyRE ShM ShP ShA ShB ShC ShE ShRA ShH ShI ShJ ShK ShL ShRG ShRH ShRI ShBP Aft FwM FwC FwP FwQ FwR FvA FvB FvE FdM FdQ FdE LvM LuM SvQ SvP SwA SwM SwT SwU SwR SwPh SwE SwF IntG BlkG

theorem has_at {p:Px} (hc:chkP p=0) {i:Nat} {x:Fx} (hx:p.funcs[i]?=some x):findP p i=0∧Has1 p i i x:=by
 have hi:=(List.getElem?_eq_some_iff.1 hx).1
 have hz:=find_of hc (n:=(i:Int)) ⟨by omega,by omega⟩
 refine ⟨hz,?_⟩
 obtain ⟨q,z,h⟩:=has1 hz
 have e:=h.eq
 obtain rfl:i=q:=by omega
 have:=h.at_
 rw [hx] at this
 cases this
 exact h

theorem check_calls (p:Px) (v:Value) (w:World) (hp:PrAt w v p) (hs:Small p) (hok:POk p) :
  Calls Tryz.prog 16 #[v] w (NumR (sndE p) w):=by
 have hp0:=hp
 obtain ⟨vt,vf,rfl,ht,hf⟩:=hp
 obtain ⟨W,hW⟩:∃ W,W=w.alloc (.cells #[vt,vf] 27):=⟨_,rfl⟩
 have hbW:Below w.heap.size w W:=by rw [hW];exact alloc_below _ _
 have k1:W.heap[w.heap.size]?=some (.cells #[vt,vf] 27 (0,0)):=by rw [hW];exact alloc_new _ _
 have HP:=hid (hp0.below hbW)
 have HTY:=hid (ht.below hbW)
 have hfW:=hf.below fnStays hbW
 obtain ⟨ta,tc,rfl⟩:=ht.slice
 obtain ⟨fa,fc,rfl,hfl⟩:=hf.slice
 have l0:∀ w',Aft W w'→w'.cell? ⟨w.heap.size,0,none⟩=some (.slice ta p.types.length tc):=later_cells k1 0 _ rfl
 have l1:∀ w',Aft W w'→w'.cell? ⟨w.heap.size,1,none⟩=some (.slice fa p.funcs.length fc):=later_cells k1 1 _ rfl
 have HCK:=hid (checkP_calls p _ W HP.out hs hok)
 have HBW:=hid hbW
 have HW:=hid hW
 have h0:=Aft.refl W
 by_cases hc:chkP p=0
 rotate_left
 ·have hsn:sndE p=chkP p:=by unfold sndE;rw [if_pos hc]
  have hq:(chkP p != 0)=true:=by simpa using hc
  rw [hsn]
  clear ht hf hfW hbW hW k1 hp0 hs hok hsn hc HTY HP
  generalize chkP p=cp at *
  generalize p.types.length=n1 at *
  generalize p.funcs.length=n2 at *
  go_enter Tryz.func16,Tryz.ntmps16
  go_wp2_with fail
  rw [← HW.out]
  refine HCK.out.mono ?_
  rintro e w1 ⟨rfl,hb1⟩
  have h1:=h0.go hb1
  clear HCK hb1
  go_wp2
  go_ret
  exact ⟨rfl,h1.out HBW.out⟩
 ·rw [hc] at HCK
  obtain ⟨hct,hn1,hn8,_⟩:=chk_zero hc
  obtain ⟨x0,hx0⟩:=some_at (l:=p.funcs) (i:=0) (by omega)
  have hh0:=(has_at hc hx0).2
  have hm0:=List.mem_of_getElem? hx0
  have hs0:=hh0.sig0
  have hs1:=hh0.sig1
  have hfp:=fn_plain hct (sig_fn hc hm0)
  obtain ⟨sn,hsn⟩:∃ sn:Nat,x0.sig=sn:=⟨x0.sig.toNat,by omega⟩
  have hsl:sn < p.types.length:=by omega
  have hsi:(sn:Int) < (p.types.length:Int):=by omega
  rw [hsn] at hfp
  have hel:=plain_lt hfp.1
  obtain ⟨fb,foff,fcap,ao,bc,he,d0,d1,hbl⟩:=fn_later hfW hh0
  cases he
  rw [hsn,Nat.zero_mul,Nat.add_zero] at d0
  obtain ⟨tg,toff,pa,pc,rfl,t0,t1,t2,t3,_⟩:=ty_later HTY.out sn hsl
  have HFC:=hid (fun (i:Nat) (x:Fx) (hx:p.funcs[i]?=some x) (wx:World) (h:Aft W wx)=>fn_calls p i x _ wx (HP.out.below h.below) hs hok (has_at hc hx).1 (has_at hc hx).2)
  have HSN:Hid (sndE p=if p.funcs.all (fnB p)=true∧firstB p=true then 0 else 120):=by show _=_;unfold sndE;rw [if_neg (fun e=>e hc)]
  have HFI:Hid (firstB p=(decide ((tyN p.types sn).parts.length=0) && isK p.types (tyN p.types sn).elem 1)):=by
   show _=_
   unfold firstB
   have e:sigAt p 0=(sn:Int):=by unfold sigAt;rw [show (0:Int).toNat=0 from rfl,hx0];exact hsn
   rw [e]
  have HI:=hid (fun wx (h:Aft W wx)=>is_calls p (tyN p.types sn).elem 1 _ wx (HP.out.below h.below) hel)
  have HAL:=hid (fun (h:AllG (fnB p) p.funcs p.funcs.length)=>allG_all h)
  have HNO:=hid (fun n u hu hn=>allG_not (q:=fnB p) (l:=p.funcs) (n:=n) (u:=u) hu hn)
  have hfpos:(0:Int) < (p.funcs.length:Int):=by omega
  have HN8:=hid hn8
  clear ht hf hfW hbW hW k1 hp0 hs hok hc HTY hct hx0 hh0 hm0 hs0 hs1 hfp hel hbl d1 hsn hfl
  generalize sndE p=ans at *
  generalize firstB p=fi at *
  generalize p.funcs.all (fnB p)=fal at *
  generalize isK p.types (tyN p.types sn).elem 1=b1 at *
  generalize (tyN p.types sn).parts.length=np at *
  generalize (tyN p.types sn).elem=te at *
  generalize (tyN p.types sn).kind=tk at *
  generalize (tyN p.types sn).many=tm at *
  generalize p.types.length=n1 at *
  go_enter Tryz.func16,Tryz.ntmps16
  go_wp2_with fail
  rw [← HW.out]
  refine HCK.out.mono ?_
  rintro e w1 ⟨rfl,hb1⟩
  have h1:=h0.go hb1
  clear HCK hb1 h0
  go_wp2_with fail
  go_loopg [4] p.funcs.length (fun gk iv wr=>∃ n:Nat,n+gk=p.funcs.length∧iv=.int .i64 n∧AllG (fnB p) p.funcs n∧Aft W wr)
  case atStart=>exact ⟨0,by omega,rfl,fun i u hi=>absurd hi (by omega),h1⟩
  case round =>
   obtain ⟨n,hn,rfl,hall,hA⟩:=hrel
   have HN:=hid hn
   have HALL:=hid hall
   clear hn hall h1
   by_cases hnt:n < p.funcs.length
   ·have HNT:=hid hnt
    obtain ⟨u,hu⟩:=some_at hnt
    have HFU:=hid (HFC.out n u hu)
    have HNX:=hid (fun hh=>allG_next HALL.out hu hh)
    have HN2:=hid (fun hh=>HNO.out n u hu hh)
    have hni:(n:Int) < (p.funcs.length:Int):=by omega
    have hnb:n≤9223372036854775806:=by have:=HN8.out;omega
    clear hu HFC HAL HNO
    generalize fnB p u=qu at *
    go_wp2_with fail
    refine (HFU.out _ hA).mono ?_
    rintro e w5 ⟨rfl,hb5⟩
    have h5:=hA.go hb5
    clear HFU hb5 hA
    cases hqu:qu with
    | true =>
     have HX:=hid (HNX.out hqu)
     clear hqu
     go_wp2
     go_roundg (gk - 1)
     case measure=>have:=HN.out;have:=HNT.out;omega
     case rel=>exact ⟨n+1,by have:=HN.out;have:=HNT.out;omega,by go_num,HX.out,h5⟩
    | false =>
     have HX:=hid (HN2.out hqu)
     have HZ:Hid (ans=120):=by show _=_;rw [HSN.out,HX.out];rfl
     clear hqu
     go_wp2
     go_ret
     exact ⟨by rw [HZ.out];rfl,h5.out HBW.out⟩
   ·obtain rfl:n=p.funcs.length:=by have:=HN.out;omega
    have HX:=hid (HAL.out HALL.out)
    clear HALL HAL HNO HFC hnt
    generalize p.funcs.length=nf at *
    have r0:=fun w' (h:Aft wr w')=>l0 w' (hA.trans h)
    have r1:=fun w' (h:Aft wr w')=>l1 w' (hA.trans h)
    have r2:=fun w' (h:Aft wr w')=>d0 w' (hA.trans h)
    have s0:=fun w' (h:Aft wr w')=>t0 w' (hA.trans h)
    have s1:=fun w' (h:Aft wr w')=>t1 w' (hA.trans h)
    have s2:=fun w' (h:Aft wr w')=>t2 w' (hA.trans h)
    have s3:=fun w' (h:Aft wr w')=>t3 w' (hA.trans h)
    go_upto_region 9 with fail
    go_cut [5] from 22 (fun c wc=>c=.pointer (some ⟨wr.heap.size,0,none⟩)∧wc.heap[wr.heap.size]?=some (.cells #[.int .u8 tk,.int .i64 te,.int .i64 tm,.slice pa np pc] 43 (0,0))∧Aft wr wc)
    case first=>as_aux_lemma =>
     have hd:=Aft.refl wr
     have hd1:Aft wr wr.drew:=hd.drew
     have hd2:∀ o,Aft wr (wr.alloc o):=fun o=>hd.alloc o
     have hd3:∀ o,Aft wr (wr.drew.alloc o):=fun o=>hd1.alloc o
     go_region
     go_wp2_with fail
     go_meet
     case rel=>first | exact ⟨rfl,ShB.alloc_new _ _,hd.alloc _⟩ | exact ⟨rfl,ShB.alloc_new _ _,(hd.alloc _).drew⟩
    case rest =>
    obtain ⟨rfl,k5,ha5⟩:=hcut
    obtain ⟨W5,rfl⟩:∃ W5:World,W5=wc:=⟨_,rfl⟩
    have m1:∀ w',Aft W5 w'→w'.cell? ⟨wr.heap.size,1,none⟩=some (.int .i64 te):=later_cells k5 1 _ rfl
    have m3:∀ w',Aft W5 w'→w'.cell? ⟨wr.heap.size,3,none⟩=some (.slice pa np pc):=later_cells k5 3 _ rfl
    have q0:=fun w' (h:Aft W5 w')=>r0 w' (ha5.trans h)
    have q1:=fun w' (h:Aft W5 w')=>r1 w' (ha5.trans h)
    have hB:=hA.trans ha5
    have hrr:=Aft.refl W5
    clear k5 r0 r1 r2 s0 s1 s2 s3 l0 l1 d0 t0 t1 t2 t3
    by_cases hnp:np=0
    ·subst hnp
     rw [decide_eq_true rfl,Bool.true_and] at HFI
     go_wp2_with fail
     refine (HI.out _ hB).mono ?_
     rintro e w6 ⟨rfl,hb6⟩
     have h6:=hB.go hb6
     clear HI hb6
     cases b1 with
     | true =>
      have HZ:Hid (ans=0):=by show _=_;rw [HSN.out,HX.out,HFI.out];rfl
      go_wp2
      go_ret
      exact ⟨by rw [HZ.out];rfl,h6.out HBW.out⟩
     | false =>
      have HZ:Hid (ans=120):=by show _=_;rw [HSN.out,HX.out,HFI.out];rfl
      go_wp2
      go_ret
      exact ⟨by rw [HZ.out];rfl,h6.out HBW.out⟩
    ·have hnpi:(0:Int) < (np:Int):=by omega
     rw [decide_eq_false hnp,Bool.false_and] at HFI
     have HZ:Hid (ans=120):=by show _=_;rw [HSN.out,HX.out,HFI.out];rfl
     clear hnp HI
     go_wp2
     all_goals (try (exfalso;omega))
     go_ret
     exact ⟨by rw [HZ.out];rfl,hB.out HBW.out⟩
end Go.Proofs.YtpejpnffcepdlaaGreatDoor.SwC
namespace Go.Proofs.YtpejpnffcepdlaaGreatDoor.SwK
open Go.RowKit Go.Lib RwO SetP IntO TyM TyP TyB TyC TyRA TyRE ShM ShP ShA ShB ShC ShE ShRA ShH ShI ShJ ShK ShL ShRG ShRH ShRI ShBP Aft FwM FwC FwP FwQ FwR FvA FvB FvE FdM FdQ FdE LvM LuM SvQ SvP SwA SwM SwT SwU SwR SwPh SwE SwF SwC IntG BlkG

/-! Kind -/
theorem place_range {p:Px} {f r:Int} (h:placeE p f r=0):∃ (k:Nat) (x:Fx),f=k∧Has1 p k k x∧0≤r∧r < ((parOf p.types x.sig+manyB x.blocks:Nat):Int):=by
 by_cases hz:findP p f=0
 ·obtain ⟨k,x,h1⟩:=has1 hz
  unfold placeE at h
  rw [if_neg (fun e=>e hz),cnt_at h1] at h
  have e:=h1.eq
  subst e
  by_cases hh:0≤r∧r < ((parOf p.types x.sig+manyB x.blocks:Nat):Int)
  ·exact ⟨k,x,rfl,h1,hh.1,hh.2⟩
  ·rw [if_neg hh] at h;exact absurd h (by decide)
 ·unfold placeE at h
  rw [if_pos hz] at h
  exact absurd h hz

theorem kind_calls (p:Px) (f r:Int) (v:Value) (w:World) (hp:PrAt w v p) (hs:Small p) (hok:POk p) :
  Calls Tryz.prog 15 #[v,.int .i64 f,.int .i64 r] w (TwoR (kindN p f r) (kindE p f r) w):=by
 have hp0:=hp
 obtain ⟨vt,vf,rfl,ht,hf⟩:=hp
 obtain ⟨W,hW⟩:∃ W,W=w.alloc (.cells #[vt,vf] 27):=⟨_,rfl⟩
 have hbW:Below w.heap.size w W:=by rw [hW];exact alloc_below _ _
 have k1:W.heap[w.heap.size]?=some (.cells #[vt,vf] 27 (0,0)):=by rw [hW];exact alloc_new _ _
 have HP:=hid (hp0.below hbW)
 obtain ⟨ta,tc,rfl⟩:=ht.slice
 obtain ⟨fa,fc,rfl,_⟩:=hf.slice
 have l0:∀ w',Aft W w'→w'.cell? ⟨w.heap.size,0,none⟩=some (.slice ta p.types.length tc):=later_cells k1 0 _ rfl
 have l1:∀ w',Aft W w'→w'.cell? ⟨w.heap.size,1,none⟩=some (.slice fa p.funcs.length fc):=later_cells k1 1 _ rfl
 have HCK:=hid (check_calls p _ W HP.out hs hok)
 have HPL:=hid (fun wx (h:Aft W wx)=>placeR_calls p f r _ wx (HP.out.below h.below) hs hok)
 have HKE:Hid (kindE p f r=if sndE p≠0 then sndE p else if placeE p f r≠0 then placeE p f r else if typeI p.types (fnP p f) r < 0 then 6 else 0):=rfl
 have HKN:Hid (kindN p f r=if kindE p f r=0 then typeI p.types (fnP p f) r else 0):=rfl
 have HTY:Hid (placeE p f r=0→∀ wx,Aft W wx→Calls Tryz.prog 34 #[.agg #[.slice ta p.types.length tc,.slice fa p.funcs.length fc],.int .i64 f,.int .i64 r] wx (NumR (typeI p.types (fnP p f) r) wx)):=fun hpl wx h=>by
  obtain ⟨k,x,hke,h1,r0,r1⟩:=place_range hpl
  subst hke
  rw [fn_eq h1]
  exact type_calls p k x r _ wx (HP.out.below h.below) hs hok h1 r0 r1
 have HBW:=hid hbW
 have HW:=hid hW
 have h0:=Aft.refl W
 clear ht hf hbW hW k1 hp0 hs hok HP
 generalize kindN p f r=kn at *
 generalize kindE p f r=ke at *
 generalize typeI p.types (fnP p f) r=ty at *
 generalize sndE p=sn at *
 generalize placeE p f r=pe at *
 generalize placeB p f r=pb at *
 generalize placeI p f r=pi at *
 generalize p.types.length=n1 at *
 generalize p.funcs.length=n2 at *
 go_enter Tryz.func15,Tryz.ntmps15
 go_wp2_with fail
 rw [← HW.out]
 refine HCK.out.mono ?_
 rintro e w1 ⟨rfl,hb1⟩
 have h1:=h0.go hb1
 clear HCK hb1 h0
 by_cases hsn:sn=0
 rotate_left
 ·have e0:(sn == 0)=false:=by simpa using hsn
  have e1:(sn != 0)=true:=by simpa using hsn
  have HE:Hid (ke=sn):=by show _=_;rw [HKE.out,if_pos hsn]
  have HN:Hid (kn=0):=by show _=_;rw [HKN.out,HE.out,if_neg hsn]
  clear hsn HTY HPL
  go_wp2
  go_ret2
  exact ⟨by rw [HE.out,HN.out];rfl,h1.out HBW.out⟩
 subst hsn
 have HKE2:Hid (ke=if pe≠0 then pe else if ty < 0 then 6 else 0):=by show _=_;rw [HKE.out,if_neg (fun e=>e rfl)]
 clear HKE
 go_wp2_with fail
 refine (HPL.out _ h1).mono ?_
 rintro e w2 ⟨rfl,hb2⟩
 have h2:=h1.go hb2
 clear HPL hb2 h1
 by_cases hpe:pe=0
 rotate_left
 ·have e1:(pe != 0)=true:=by simpa using hpe
  have HE:Hid (ke=pe):=by show _=_;rw [HKE2.out,if_pos hpe]
  have HN:Hid (kn=0):=by show _=_;rw [HKN.out,HE.out,if_neg hpe]
  clear hpe HTY
  go_wp2
  go_ret2
  exact ⟨by rw [HE.out,HN.out];rfl,h2.out HBW.out⟩
 subst hpe
 have HKE3:Hid (ke=if ty < 0 then 6 else 0):=by show _=_;rw [HKE2.out,if_neg (fun e=>e rfl)]
 have HT2:=hid (fun wx h=>HTY.out rfl wx h)
 clear HTY HKE2
 go_wp2_with fail
 refine (HT2.out _ h2).mono ?_
 rintro e w3 ⟨rfl,hb3⟩
 have h3:=h2.go hb3
 clear hb3 h2
 by_cases hty:ty < 0
 ·have HE:Hid (ke=6):=by show _=_;rw [HKE3.out,if_pos hty]
  have HN:Hid (kn=0):=by show _=_;rw [HKN.out,HE.out];rfl
  clear HT2
  go_wp2
  go_ret2
  exact ⟨by rw [HE.out,HN.out];rfl,h3.out HBW.out⟩
 ·have HE:Hid (ke=0):=by show _=_;rw [HKE3.out,if_neg hty]
  have HN:Hid (kn=ty):=by show _=_;rw [HKN.out,HE.out];rfl
  go_wp2_with fail
  refine (HT2.out _ h3).mono ?_
  rintro e w4 ⟨rfl,hb4⟩
  have h4:=h3.go hb4
  clear HT2 hb4
  go_wp2
  go_ret2
  exact ⟨by rw [HE.out,HN.out];rfl,h4.out HBW.out⟩
end Go.Proofs.YtpejpnffcepdlaaGreatDoor.SwK
namespace Go.Proofs.YtpejpnffcepdlaaGreatDoor.SzM
open TyM ShM ShP ShE ShH ShI ShN ShJ ShK ShL ShBP FwM FwC FwP FwQ FdM FdQ FeP FxL LvM LvQ LuM SoM SvQ SvP

def tyIx (x:Ix):Int:=if answersB x.op=true then x.typ else -1
def tyBx (b:Bx):List Int:=b.ins.map tyIx
def regL (t:List Ty) (x:Fx):List Int:=(tyN t x.sig).parts++x.blocks.flatMap tyBx
theorem flat_len:∀ l:List Bx,(l.flatMap tyBx).length=manyB l
 | []=>rfl
 | b :: l=>by rw [List.flatMap_cons,List.length_append,flat_len l,manyB_cons];unfold tyBx;rw [List.length_map]
theorem flat_at:∀ (l:List Bx) (j i:Nat) (h:j < l.length) (hi:i < l[j].ins.length),(l.flatMap tyBx)[manyB (l.take j)+i]?=some (tyIx (l[j].ins[i]))
 | [],j,i,h,hi=>absurd h (by simp)
 | b :: l,0,i,h,hi=>by
  have hi2:i < b.ins.length:=hi
  rw [List.flatMap_cons,List.take_zero,manyB_nil,Nat.zero_add,List.getElem?_append_left (by unfold tyBx;rw [List.length_map];exact hi2)]
  unfold tyBx
  rw [List.getElem?_map,List.getElem?_eq_getElem hi2]
  rfl
 | b :: l,j+1,i,h,hi=>by
  have h2:j < l.length:=by simpa using h
  have ih:=flat_at l j i h2 hi
  have hb:(tyBx b).length=b.ins.length:=by unfold tyBx;rw [List.length_map]
  rw [List.flatMap_cons,List.take_succ_cons,manyB_cons,List.getElem?_append_right (by omega),hb,show b.ins.length+manyB (l.take j)+i - b.ins.length=manyB (l.take j)+i by omega,ih]
  rfl
theorem regL_len (t:List Ty) (x:Fx):(regL t x).length=parOf t x.sig+manyB x.blocks:=by
 unfold regL
 rw [List.length_append,flat_len]
 rfl
theorem regL_at {t:List Ty} {x:Fx} {r:Nat} (hr:r < parOf t x.sig+manyB x.blocks):(regL t x)[r]?=some (typeI t x r):=by
 have hp:(tyN t x.sig).parts.length=parOf t x.sig:=rfl
 by_cases h:r < parOf t x.sig
 ·unfold regL typeI
  rw [List.getElem?_append_left (by omega),if_pos (by omega),Int.toNat_natCast,List.getElem?_eq_getElem (by omega)]
  rfl
 ·rcases set_loc hr with h2 | ⟨c,q,hc,hq,he,hl⟩
  ·exact absurd h2 h
  have hi:insAt x.blocks c=x.blocks[c].ins:=by unfold insAt;rw [List.getElem?_eq_getElem hc];rfl
  have hq2:q < x.blocks[c].ins.length:=by rw [← hi];exact hq
  unfold typeI
  rw [if_neg (by omega),hl]
  unfold regL
  rw [List.getElem?_append_right (by omega),hp,show r - parOf t x.sig=manyB (x.blocks.take c)+q by omega,flat_at x.blocks c q hc hq2]
  have e:insOf x.blocks c q=x.blocks[c].ins[q]:=by unfold insOf;rw [hi,List.getElem?_eq_getElem hq2];rfl
  show some (tyIx _)=some (if answersB (insOf x.blocks c q).op=true then (insOf x.blocks c q).typ else -1)
  rw [e]
  rfl
theorem sig_ok {p:Px} (hc:chkP p=0) {f:Fx} (hf:f∈p.funcs):isK p.types f.sig 3=true:=by
 obtain ⟨hct,_,_,hmf⟩:=chk_zero hc
 have hm:=may_zero (hmf f hf)
 unfold isK
 simp only [Bool.and_eq_true,decide_eq_true_eq]
 exact ⟨hm.1.1,hm.2.1⟩
theorem ins_field {p:Px} {f:Fx} (h:chkP p=0) (ho:POk p) (hf:f∈p.funcs) {b:Bx} (hb:b∈f.blocks) {x:Ix} (hx:x∈b.ins) (he:x.op=14):0≤x.n∧x.n < 8:=by
 have hm:=(chk_zero h).2.2.2 f hf
 unfold mayF at hm
 split at hm
 ·cases hm
 split at hm
 ·cases hm
 split at hm
 ·cases hm
 have hbb:=List.all_eq_true.1 hm b hb
 unfold mayBl at hbb
 simp only [Bool.and_eq_true] at hbb
 have h2:=List.all_eq_true.1 hbb.2 x hx
 rw [mayI_eq ((ho f hf b hb).2 x hx).1] at h2
 unfold mayIR at h2
 split at h2
 ·cases h2
 rename_i h1
 have hn:mayNR p.funcs.length x=true:=by
  cases e:mayNR p.funcs.length x with
  | true=>rfl
  | false=>exact absurd (.inr (.inr (.inr e))) h1
 unfold mayNR at hn
 rw [if_neg (by omega),if_neg (by omega),if_pos he] at hn
 exact of_decide_eq_true hn
theorem type_neg {p:Px} {f:Fx} (hc:chkP p=0) (ho:POk p) (hf:f∈p.funcs) {r:Nat} (hr:r < parOf p.types f.sig+manyB f.blocks):typeI p.types f r = -1∨(0≤typeI p.types f r∧typeI p.types f r < p.types.length):=by
 have hsig:isK p.types f.sig 3=true:=by
  obtain ⟨hct,_,_,hmf⟩:=chk_zero hc
  have hm:=may_zero (hmf f hf)
  unfold isK
  simp only [Bool.and_eq_true,decide_eq_true_eq]
  exact ⟨hm.1.1,hm.2.1⟩
 by_cases h:r < parOf p.types f.sig
 ·have hpl:=(fn_plain (chk_zero hc).1 hsig).2
  have hp:(tyN p.types f.sig).parts.length=parOf p.types f.sig:=rfl
  unfold typeI
  rw [if_pos (by omega),Int.toNat_natCast,List.getElem?_eq_getElem (by omega)]
  obtain ⟨h0,y,hy,_⟩:=plainB_iff.1 (hpl _ (List.getElem_mem (show r < (tyN p.types f.sig).parts.length by omega)))
  have:=(List.getElem?_eq_some_iff.1 hy).1
  refine .inr ⟨h0,?_⟩
  show (tyN p.types f.sig).parts[r] < _
  omega
 ·rcases set_loc hr with h2 | ⟨c,q,hcl,hq,he,hl⟩
  ·exact absurd h2 h
  unfold typeI
  rw [if_neg (by omega),hl]
  show (if answersB (insOf f.blocks c q).op=true then (insOf f.blocks c q).typ else -1) = -1∨_
  have hx:(insAt f.blocks c)[q]?=some (insOf f.blocks c q):=by unfold insOf;rw [List.getElem?_eq_getElem hq];rfl
  obtain ⟨b,hb,hxm⟩:=insAt_mem hx hcl
  have hk:=ins_ok hc ho hf hb hxm
  by_cases ha:answersB (insOf f.blocks c q).op=true
  ·rw [if_pos ha]
   exact .inr (hk.typ ha)
  ·rw [if_neg ha]
   exact .inl rfl

/-! what is set, from ruler to ruler -/
def firstB' (par:Nat) (l:List Bx) (k:Nat):Nat:=par+manyB (l.take k)
def firstL (par:Nat) (l:List Bx) (n:Nat):List Int:=(List.range n).map fun k=>((firstB' par l k:Nat):Int)
theorem firstL_len (par:Nat) (l:List Bx) (n:Nat):(firstL par l n).length=n:=by unfold firstL;rw [List.length_map,List.length_range]
theorem firstL_at {par:Nat} {l:List Bx} {n k:Nat} (h:k < n):(firstL par l n)[k]?=some ((firstB' par l k:Nat):Int):=by
 unfold firstL
 rw [List.getElem?_map,List.getElem?_range h]
 rfl
theorem firstL_next (par:Nat) (l:List Bx) (n:Nat):firstL par l (n+1)=firstL par l n++[((firstB' par l n:Nat):Int)]:=by
 unfold firstL
 rw [List.range_succ,List.map_append]
 rfl
theorem first_next {par:Nat} {l:List Bx} {k:Nat} (h:k < l.length):firstB' par l (k+1)=firstB' par l k+(insAt l k).length:=by
 unfold firstB' insAt
 rw [manyB_take h,List.getElem?_eq_getElem h]
 show par+(manyB (l.take k)+l[k].ins.length)=par+manyB (l.take k)+l[k].ins.length
 omega
theorem first_zero (par:Nat) (l:List Bx):firstB' par l 0=par:=by unfold firstB';rw [List.take_zero,manyB_nil,Nat.add_zero]
theorem first_mono {par:Nat} {l:List Bx} {j k:Nat} (h:j≤k):firstB' par l j≤firstB' par l k:=by
 unfold firstB'
 have e:l.take j=(l.take k).take j:=by rw [List.take_take,Nat.min_eq_left h]
 rw [e]
 have:=manyB_le (l.take k) j
 omega
theorem first_le {par:Nat} {l:List Bx} {k:Nat} : firstB' par l k≤par+manyB l:=by
 unfold firstB'
 have:=manyB_le l k
 omega
def blkOf (par:Nat) (l:List Bx) (r:Nat):Nat:=(locate l ((r:Int) - par).toNat).1
theorem blk_in {par:Nat} {l:List Bx} {r:Nat} (hr:r < par+manyB l) (hp:¬ r < par):blkOf par l r < l.length∧firstB' par l (blkOf par l r)≤r∧r < firstB' par l (blkOf par l r+1):=by
 rcases set_loc hr with h2 | ⟨c,q,hc,hq,he,hl⟩
 ·exact absurd h2 hp
 have e:blkOf par l r=c:=by unfold blkOf;rw [hl]
 rw [e,first_next hc]
 refine ⟨hc,?_,?_⟩
 ·unfold firstB';omega
 ·unfold firstB';omega
theorem blk_of {par:Nat} {l:List Bx} {r k:Nat} (hr:r < par+manyB l) (h1:firstB' par l k≤r) (h2:r < firstB' par l (k+1)):blkOf par l r=k:=by
 have hp:¬ r < par:=by unfold firstB' at h1;omega
 obtain ⟨b1,b2,b3⟩:=blk_in hr hp
 refine Classical.byContradiction fun hne=>?_
 rcases Nat.lt_or_gt_of_ne hne with h | h
 ·have:=first_mono (par:=par) (l:=l) (show blkOf par l r+1≤k by omega)
  omega
 ·have:=first_mono (par:=par) (l:=l) (show k+1≤blkOf par l r by omega)
  omega
def upB (par:Nat) (l:List Bx) (r:Nat) (k:Int):Bool:=decide (0≤k) && ruledL l (blkOf par l r) k.toNat
theorem up_none {par:Nat} {l:List Bx} {r:Nat} {k:Int} (h:k < 0):upB par l r k=false:=by unfold upB;rw [decide_eq_false (by omega)];rfl
theorem up_nat (par:Nat) (l:List Bx) (r k:Nat):upB par l r (k:Int)=ruledL l (blkOf par l r) k:=by unfold upB;rw [decide_eq_true (by omega),Bool.true_and,Int.toNat_natCast]
section
variable {par:Nat} {l:List Bx} (hl:Low l) (h0:0 < l.length) (hall:∀ b,b < l.length→FwM.Comes (succ l) 0 b)
include hl h0 hall
theorem up_in {r k:Nat} (hr:r < par+manyB l) (hk:k < l.length) (h1:firstB' par l k≤r) (h2:r < firstB' par l (k+1)):upB par l r (k:Int)=true:=by
 rw [up_nat,blk_of hr h1 h2]
 exact (ruled_iff hl h0 (hall k hk)).2 (rules_self (hall k hk))
theorem up_step {c k:Nat} (hk:k < l.length) (hne:c≠k):ruledL l c k=(decide (0≤rulerL l k) && ruledL l c (rulerL l k).toNat):=by
 by_cases hz:k=0
 ·subst hz
  rw [ruler_zero hl h0]
  cases e:ruledL l c 0 with
  | false=>rfl
  | true=>exact absurd (rules_first ((ruled_iff hl h0 .here).1 e)) hne
 ·obtain ⟨a,ha,hn⟩:=ruler_some hl h0 (hall k hk) hz
  rw [ha,decide_eq_true (by omega),Bool.true_and,Int.toNat_natCast]
  have h1:=ruled_iff hl h0 (a:=c) (hall k hk)
  have h2:=ruled_iff hl h0 (a:=c) hn.2.1.reach
  have h3:=rules_next (x:=c) hn
  rw [Bool.eq_iff_iff,h1,h2,h3]
  exact ⟨fun h=>h.resolve_left hne,.inr⟩
theorem up_next {r k:Nat} (hr:r < par+manyB l) (hp:¬ r < par) (hk:k < l.length) (hno:¬ (firstB' par l k≤r∧r < firstB' par l (k+1))):upB par l r (k:Int)=upB par l r (rulerL l k):=by
 obtain ⟨b1,b2,b3⟩:=blk_in hr hp
 rw [up_nat]
 exact up_step hl h0 hall hk fun e=>hno (by rw [← e];exact ⟨b2,b3⟩)
theorem ruler_lt {k:Nat} (hk:k < l.length):rulerL l k = -1∨∃ a:Nat,rulerL l k=a∧a < l.length∧rulersN l a < rulersN l k:=by
 by_cases hz:k=0
 ·subst hz;exact .inl (ruler_zero hl h0)
 ·obtain ⟨a,ha,hn⟩:=ruler_some hl h0 (hall k hk) hz
  exact .inr ⟨a,ha,rules_lt (succ_lt hl) h0 hn.2.1,rulers_less hl h0 hn⟩
theorem set_up {r b pl:Nat} (hr:r < par+manyB l) (hp:¬ r < par) (hb:b < l.length) (hpl:pl≤(insAt l b).length) (hno:¬ (firstB' par l b≤r∧r < firstB' par l b+pl)):isSetL par l r b pl=upB par l r (rulerL l b):=by
 rcases set_loc hr with h2 | ⟨c,q,hc,hq,he,hloc⟩
 ·exact absurd h2 hp
 have e:blkOf par l r=c:=by unfold blkOf;rw [hloc]
 rw [set_at hp hloc]
 by_cases hcb:c=b
 ·rw [if_pos hcb]
  subst hcb
  have hq2:¬ q < pl:=by
   intro h
   refine hno ⟨?_,?_⟩
   ·unfold firstB';omega
   ·unfold firstB';omega
  rw [decide_eq_false hq2]
  unfold upB
  rw [e]
  rcases ruler_lt hl h0 hall hc with h | ⟨a,ha,hal,_⟩
  ·rw [h];rfl
  ·rw [ha,decide_eq_true (by omega),Bool.true_and,Int.toNat_natCast]
   cases hra:ruledL l c a with
   | false=>rfl
   | true =>
    have hz:c≠0:=by rintro rfl;rw [ruler_zero hl h0] at ha;omega
    obtain ⟨a',ha',hn⟩:=ruler_some hl h0 (hall c hc) hz
    obtain rfl:a'=a:=by omega
    exact absurd (((ruled_iff hl h0 (hall a' hal)).1 hra).anti hn.2.1).symm hn.1
 ·rw [if_neg hcb]
  have:=up_step hl h0 hall hb hcb
  rw [this]
  unfold upB
  rw [e]
end
theorem set_own {par:Nat} {l:List Bx} {r b pl:Nat} (hr:r < par+manyB l) (hb:b < l.length) (hpl:pl≤(insAt l b).length) (h1:firstB' par l b≤r) (h2:r < firstB' par l b+pl):isSetL par l r b pl=true:=by
 have hp:¬ r < par:=by unfold firstB' at h1;omega
 rcases set_loc hr with h3 | ⟨c,q,hc,hq,he,hloc⟩
 ·exact absurd h3 hp
 have e:blkOf par l r=c:=by unfold blkOf;rw [hloc]
 have e2:=blk_of hr h1 (show r < firstB' par l (b+1) by rw [first_next hb];omega)
 have hcb:c=b:=by omega
 rw [set_at hp hloc,if_pos hcb]
 subst hcb
 refine decide_eq_true ?_
 unfold firstB' at h2
 omega
end Go.Proofs.YtpejpnffcepdlaaGreatDoor.SzM
