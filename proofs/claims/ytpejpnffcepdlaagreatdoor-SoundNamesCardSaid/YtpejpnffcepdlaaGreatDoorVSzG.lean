/- Walks over sound's fits: memory, calls, phis. -/
import Derived.Test.YtpejpnffcepdlaaGreatDoorVRgZToRgY
import Derived.Test.YtpejpnffcepdlaaGreatDoorVSzBToSzF
import Derived.Test.YtpejpnffcepdlaaGreatDoorVIntOToSwXd
import Derived.Test.YtpejpnffcepdlaaGreatDoorVResT
import Derived.Deep.RegionHeld3
set_option maxRecDepth 100000
set_option maxHeartbeats 16000000
namespace Go.Proofs.YtpejpnffcepdlaaGreatDoor.SzG
open Go.RowKit Go.Lib SetP IntO TyM TyP TyB TyC TyQ ShM ShP ShA ShB ShC ShE ShH ShI ShJ Aft FwP FwQ IntG BlkG LvM SvQ SvP SwA SzM SzE SzB SzC SzF SwX RgZ

/-! of the type that a pointer points to -/
theorem under_ok {t:List Ty} {n:Int} (hc:chkT t=0):((underT t n).kind=4→∀ u∈(underT t n).parts,0≤u)∧((underT t n).kind=5→0≤(underT t n).elem):=by
 unfold underT
 by_cases h:isK t n 2=true
 ·rw [if_pos h]
  obtain ⟨e0,e1⟩:=ptr_elem hc h
  have hm:=good_at hc e0 e1
  unfold mayX at hm
  constructor
  ·intro h4 u hu
   rw [if_neg (by omega),if_neg (by omega),if_neg (by omega),if_pos h4] at hm
   simp only [Bool.and_eq_true] at hm
   exact (lowB_iff.1 hm.2.2.1 u hu).1
  ·intro h5
   rw [if_neg (by omega),if_neg (by omega),if_neg (by omega),if_neg (by omega),if_pos h5] at hm
   simp only [Bool.and_eq_true] at hm
   exact (lowB_iff.1 hm.2.2.1 _ (by simp)).1
 ·rw [if_neg h]
  exact ⟨fun h=>absurd h (show ¬ (0:Int)=4 by decide),fun h=>absurd h (show ¬ (0:Int)=5 by decide)⟩
theorem field_is {t:List Ty} {m typ:Int} {j:Nat} (hc:chkT t=0):(isK t (toK t m) 4 && partK t typ (partZ (tyN t (toK t m)) (j:Int)))=(decide ((underT t m).kind=4) && (decide (j < (underT t m).parts.length) && partK t typ (((underT t m).parts[j]?).getD 0))):=by
 unfold underT
 by_cases h:isK t m 2=true
 ·have hto:toK t m=(tyN t m).elem:=by unfold toK;rw [if_pos h]
  rw [if_pos h,hto]
  have he:=(ptr_elem hc h).1
  generalize (tyN t m).elem=e at *
  unfold isK partZ
  rw [decide_eq_true he,Bool.true_and]
  by_cases h4:(tyN t e).kind=4
  ·rw [decide_eq_true h4,Bool.true_and,Bool.true_and]
   by_cases hj:j < (tyN t e).parts.length
   ·rw [if_pos ⟨h4,by omega,by omega⟩,decide_eq_true hj,Bool.true_and,Int.toNat_natCast]
   ·rw [if_neg (fun hh=>hj (by omega)),if_neg (by omega),decide_eq_false hj,Bool.false_and]
    rfl
  ·rw [decide_eq_false h4,Bool.false_and,Bool.false_and]
 ·have hto:toK t m = -1:=by unfold toK;rw [if_neg h]
  rw [if_neg h,hto,isK_no (by decide),Bool.false_and]
  rfl
theorem elem_is {t:List Ty} {m x1 typ:Int} (hc:chkT t=0):(isK t (toK t m) 5 && (isK t x1 1 && partK t typ (tyN t (toK t m)).elem))=(decide ((underT t m).kind=5) && (isK t x1 1 && partK t typ (underT t m).elem)):=by
 unfold underT
 by_cases h:isK t m 2=true
 ·have hto:toK t m=(tyN t m).elem:=by unfold toK;rw [if_pos h]
  rw [if_pos h,hto]
  have he:=(ptr_elem hc h).1
  generalize (tyN t m).elem=e at *
  have e2:isK t e 5=decide ((tyN t e).kind=5):=by unfold isK;rw [decide_eq_true he,Bool.true_and]
  rw [e2]
 ·have hto:toK t m = -1:=by unfold toK;rw [if_neg h]
  rw [if_neg h,hto,isK_no (by decide),Bool.false_and]
  rfl
theorem fit1_calls (m typ:Int) (c:Nat) (w:World) (h:w.cell? ⟨c,1,none⟩=some (.int .i64 typ)) :
  Calls Tryz.prog 200 #[.int .i64 m,.pointer (some ⟨c,0,none⟩)] w (BoolR (m != typ) w):=by
 go_enter Tryz.func200,Tryz.ntmps200
 go_wp2
 go_ret
 exact ⟨rfl,Below.refl _ _⟩
variable (b:Nat) (p:Px) (k:Nat) (x:Fx) (fl rl:List Int)
theorem fits_phi (i:Ix) (aa fa la:Option Addr) (an ac fn fc ln lc:Nat) (l:List Int) (w:World) (hb:BdAt w b p k x fl rl) (hx:FitOk p i l) (hl:IntsAt w (.slice la ln lc) l) (hop:i.op=22) :
  Calls Tryz.prog 164 #[.pointer (some ⟨b,0,none⟩),ixV i (.slice aa an ac) (.slice fa fn fc),.slice la ln lc] w (BoolR (typedB p i l) w):=by
 obtain ⟨op,typ,ra1,rb1,n,args,frm⟩:=i
 have hop2:op=22:=hop
 clear hop
 subst hop2
 obtain ⟨W,hW⟩:∃ W,W=w.alloc (.cells #[.int .u8 22,.int .i64 typ,.int .i64 ra1,.int .i64 rb1,.int .i64 n,.slice aa an ac,.slice fa fn fc] 31):=⟨_,rfl⟩
 have hbW:Below w.heap.size w W:=by rw [hW];exact alloc_below _ _
 have k1:W.heap[w.heap.size]?=some (.cells #[.int .u8 22,.int .i64 typ,.int .i64 ra1,.int .i64 rb1,.int .i64 n,.slice aa an ac,.slice fa fn fc] 31 (0,0)):=by rw [hW];exact ShB.alloc_new _ _
 have hbl:=hb.below hbW
 have hlw:=hl.below hbW
 have HA:=hid (fun (kind:Int) (wx:World) (ha:Aft W wx)=>are_calls b p k x fl rl kind _ l wx (hbl.on ha) (hlw.below ha.below) hx.low)
 have HO:=hid (fun (kind m:Int) (hm:0≤m∧m < p.types.length) (wx:World) (ha:Aft W wx)=>are1_calls b p k x fl rl kind m wx (hbl.on ha) hm)
 have hws:W.heap.size=w.heap.size+1:=by rw [hW];simp
 have HF:=hid (fun (kind m:Int) (hm:0≤m∧m < p.types.length)=>hws ▸ (HO.out kind m hm W (Aft.refl W)))
 have h0:=Aft.refl W
 have HW:=hid hW
 have HBW:=hid hbW
 have l0:=later_cells k1 0 _ rfl
 have l1:=later_cells k1 1 _ rfl
 have l4:=later_cells k1 4 _ rfl
 have m0:=l0 W h0;have m1:=l1 W h0;have m4:=l4 W h0
 rw [hW] at m0 m1 m4
 have hty:0≤typ∧typ < p.types.length:=hx.typ (show answersB 22=true by decide)
 have HTY:=hid hty
 have hall:(l.all fun m=>decide (m=typ))=!(l.any fun m=>m != typ):=by
  rw [Bool.eq_iff_iff]
  simp
 have HS:Hid (typedB p ⟨22,typ,ra1,rb1,n,args,frm⟩ l=(scalK p.types typ && !(l.any fun m=>m != typ))):=by
  show _=_
  rw [← hall,Bool.and_comm]
  simp [typedB]
 have HSC:=hid (fun (wx:World) (ha:Aft W wx)=>scalar_calls b p k x fl rl typ wx (hbl.on ha) hty)
 have HCT:=hid (fun (wx:World) (ha:Aft W wx)=>contains_calls 200 (enters_of Tryz.func200 (by kernel_rfl) rfl) w.heap.size (fun m=>m != typ) _ l wx (hlw.below ha.below) (fun m _ wy hy=>fit1_calls m typ w.heap.size wy (l1 wy (ha.go hy))))
 clear HO HA HF hall
 generalize typedB p ⟨22,typ,ra1,rb1,n,args,frm⟩ l=ans at *
 generalize (l.any fun m=>m != typ)=an at *
 generalize scalK p.types typ=q at *
 clear hb hl hW hbW k1 hbl hlw hx l0 hws hty l1 l4
 go_enter Tryz.func164,Tryz.ntmps164
 go_upto_if 46 with fail
 refine wp_cond_true rfl (wp_exit ?_)
 repeat (first | with_reducible refine then_exit ?_ | with_reducible refine in_here ?_ | with_reducible refine in_other (by decide) ?_)
 with_reducible refine then_normal ?_
 go_wp2_with fail
 rw [← HW.out]
 refine (HSC.out _ h0).mono ?_
 rintro e w1 ⟨rfl,hb1⟩
 have h1:=h0.go hb1
 clear hb1 HSC
 cases q with
 | false =>
  go_wp2
  go_ret
  exact ⟨by rw [HS.out];rfl,h1.out HBW.out⟩
 | true =>
  go_wp2_with fail
  refine (HCT.out _ h1).mono ?_
  rintro e w2 ⟨rfl,hb2⟩
  have h2:=h1.go hb2
  clear hb2 HCT
  go_wp2
  go_ret
  exact ⟨by rw [HS.out];rfl,h2.out HBW.out⟩

theorem fits_call (i:Ix) (aa fa la:Option Addr) (an ac fn fc ln lc:Nat) (l:List Int) (w:World) (hb:BdAt w b p k x fl rl) (hx:FitOk p i l) (hl:IntsAt w (.slice la ln lc) l) (hop:i.op=18) :
  Calls Tryz.prog 164 #[.pointer (some ⟨b,0,none⟩),ixV i (.slice aa an ac) (.slice fa fn fc),.slice la ln lc] w (BoolR (typedB p i l) w):=by
 obtain ⟨op,typ,ra1,rb1,n,args,frm⟩:=i
 have hop2:op=18:=hop
 clear hop
 subst hop2
 obtain ⟨W,hW⟩:∃ W,W=w.alloc (.cells #[.int .u8 18,.int .i64 typ,.int .i64 ra1,.int .i64 rb1,.int .i64 n,.slice aa an ac,.slice fa fn fc] 31):=⟨_,rfl⟩
 have hbW:Below w.heap.size w W:=by rw [hW];exact alloc_below _ _
 have k1:W.heap[w.heap.size]?=some (.cells #[.int .u8 18,.int .i64 typ,.int .i64 ra1,.int .i64 rb1,.int .i64 n,.slice aa an ac,.slice fa fn fc] 31 (0,0)):=by rw [hW];exact ShB.alloc_new _ _
 have hbl:=hb.below hbW
 have hlw:=hl.below hbW
 have HA:=hid (fun (kind:Int) (wx:World) (ha:Aft W wx)=>are_calls b p k x fl rl kind _ l wx (hbl.on ha) (hlw.below ha.below) hx.low)
 have HO:=hid (fun (kind m:Int) (hm:0≤m∧m < p.types.length) (wx:World) (ha:Aft W wx)=>are1_calls b p k x fl rl kind m wx (hbl.on ha) hm)
 have hws:W.heap.size=w.heap.size+1:=by rw [hW];simp
 have HF:=hid (fun (kind m:Int) (hm:0≤m∧m < p.types.length)=>hws ▸ (HO.out kind m hm W (Aft.refl W)))
 have h0:=Aft.refl W
 have HW:=hid hW
 have HBW:=hid hbW
 have l0:=later_cells k1 0 _ rfl
 have l1:=later_cells k1 1 _ rfl
 have l4:=later_cells k1 4 _ rfl
 have m0:=l0 W h0;have m1:=l1 W h0;have m4:=l4 W h0
 rw [hW] at m0 m1 m4
 obtain ⟨n0,n1⟩:=hx.n (Or.inr rfl)
 obtain ⟨j,hj⟩:∃ j:Nat,n=(j:Int):=⟨n.toNat,by show n=_;have:0≤n:=n0;omega⟩
 subst hj
 have hjl:j < p.funcs.length:=by have:(j:Int) < _:=n1;omega
 obtain ⟨y,hy⟩:=some_at hjl
 have hsig:=sig_ok hx.chk (List.mem_of_getElem? hy)
 obtain ⟨sn,hsn⟩:∃ sn:Nat,y.sig=sn:=⟨y.sig.toNat,by have:=(isK_at hsig).1;omega⟩
 rw [hsn] at hsig
 have hsl:sn < p.types.length:=by have:=isK_low hsig (by decide);omega
 have HS:Hid (typedB p ⟨18,typ,ra1,rb1,(j:Int),args,frm⟩ l=callK p.types (sn:Int) l typ):=by
  show _=_
  rw [← hsn]
  simp [typedB,sigAt,hy]
 have HCL:=hid (fun (wx:World) (ha:Aft W wx)=>calls_calls b p k x fl rl sn _ l typ wx (hbl.on ha) hsl (hlw.below ha.below) hsig)
 obtain ⟨_,_,_,_,_,_,fa2,fc2,_,_,_,_,kb,_,_,_,hfs,_,_⟩:=id hbl
 have lb:∀ w',Aft W w'→w'.cell? ⟨b,4,none⟩=some (.slice fa2 p.funcs.length fc2):=later_cells kb 4 _ rfl
 obtain ⟨fg,fo,rfl,_,vb,f0,_,hbx⟩:=RowAt.at hfs j hjl
 have hye:(p.funcs[j]).sig=(sn:Int):=by obtain ⟨h,e⟩:=List.getElem?_eq_some_iff.1 hy;rw [e];exact hsn
 rw [hye] at f0
 have f0:=later f0
 have hjn:(j:Int) < (p.funcs.length:Int):=by omega
 have h0d:=h0.drew
 clear hbx kb hfs hye hy hsn hsig hsl n0 n1 HO HA HF
 generalize typedB p ⟨18,typ,ra1,rb1,(j:Int),args,frm⟩ l=ans at *
 generalize callK p.types (sn:Int) l typ=q at *
 generalize p.funcs.length=nf at *
 clear hb hl hW hbW k1 hbl hlw hx l0 hws 
 go_enter Tryz.func164,Tryz.ntmps164
 go_upto_if 42 with fail
 refine wp_cond_true rfl (wp_exit ?_)
 repeat (first | with_reducible refine then_exit ?_ | with_reducible refine in_here ?_ | with_reducible refine in_other (by decide) ?_)
 with_reducible refine then_normal ?_
 go_upto_region 40 with fail
 rw [← HW.out]
 clear m0 m1 m4
 go_region_held3 (fun w'=>Aft W w') (first | exact h0d.go hb3 | exact h0d)
  ((go_at_call 199;(with_reducible refine (HCL.out _ h0d).mono ?_);rintro e w3 ⟨rfl,hb3⟩))
 all_goals
  have h3:=h0d.go hb3
  clear hb3
  go_wp2
  go_ret
  exact ⟨by rw [HS.out];rfl,h3.out HBW.out⟩

theorem fits_load (i:Ix) (aa fa la:Option Addr) (an ac fn fc ln lc:Nat) (l:List Int) (w:World) (hb:BdAt w b p k x fl rl) (hx:FitOk p i l) (hl:IntsAt w (.slice la ln lc) l) (hop:i.op=16) :
  Calls Tryz.prog 164 #[.pointer (some ⟨b,0,none⟩),ixV i (.slice aa an ac) (.slice fa fn fc),.slice la ln lc] w (BoolR (typedB p i l) w):=by
 obtain ⟨op,typ,ra1,rb1,n,args,frm⟩:=i
 have hop2:op=16:=hop
 clear hop
 subst hop2
 obtain ⟨W,hW⟩:∃ W,W=w.alloc (.cells #[.int .u8 16,.int .i64 typ,.int .i64 ra1,.int .i64 rb1,.int .i64 n,.slice aa an ac,.slice fa fn fc] 31):=⟨_,rfl⟩
 have hbW:Below w.heap.size w W:=by rw [hW];exact alloc_below _ _
 have k1:W.heap[w.heap.size]?=some (.cells #[.int .u8 16,.int .i64 typ,.int .i64 ra1,.int .i64 rb1,.int .i64 n,.slice aa an ac,.slice fa fn fc] 31 (0,0)):=by rw [hW];exact ShB.alloc_new _ _
 have hbl:=hb.below hbW
 have hlw:=hl.below hbW
 have HA:=hid (fun (kind:Int) (wx:World) (ha:Aft W wx)=>are_calls b p k x fl rl kind _ l wx (hbl.on ha) (hlw.below ha.below) hx.low)
 have HO:=hid (fun (kind m:Int) (hm:0≤m∧m < p.types.length) (wx:World) (ha:Aft W wx)=>are1_calls b p k x fl rl kind m wx (hbl.on ha) hm)
 have hws:W.heap.size=w.heap.size+1:=by rw [hW];simp
 have HF:=hid (fun (kind m:Int) (hm:0≤m∧m < p.types.length)=>hws ▸ (HO.out kind m hm W (Aft.refl W)))
 have h0:=Aft.refl W
 have HW:=hid hW
 have HBW:=hid hbW
 have l0:=later_cells k1 0 _ rfl
 have l1:=later_cells k1 1 _ rfl
 have l4:=later_cells k1 4 _ rfl
 have m0:=l0 W h0;have m1:=l1 W h0;have m4:=l4 W h0
 rw [hW] at m0 m1 m4
 have hty:0≤typ∧typ < p.types.length:=hx.typ (show answersB 16=true by decide)
 have HTY:=hid hty
 obtain ⟨x0,rfl⟩:=one_of hx.len
 have hx0:=hx.low x0 (by simp)
 obtain ⟨m,rfl⟩:∃ m:Nat,x0=m:=⟨x0.toNat,by omega⟩
 have HS:Hid (typedB p ⟨16,typ,ra1,rb1,n,args,frm⟩ [(m:Int)]=(scalK p.types typ && partK p.types (m:Int) typ)):=by
  show _=_
  simp only [typedB,memB,partK]
  rw [if_neg (by decide),if_neg (by decide),if_neg (by decide),if_neg (by decide),if_neg (by decide),if_neg (by decide),if_neg (by decide),if_neg (by decide),if_pos (by decide),if_neg (by decide),if_neg (by decide),if_pos (by decide)]
  show (scalK p.types (toK p.types (m:Int)) && decide (typ=toK p.types (m:Int)))=_
  rw [decide_eq_true hty.1,Bool.true_and]
  by_cases e:typ=toK p.types (m:Int)
  ·rw [← e]
  ·rw [decide_eq_false e,decide_eq_false (fun e2=>e e2.symm),Bool.and_false,Bool.and_false]
 have HSC:=hid (fun (wx:World) (ha:Aft W wx)=>scalar_calls b p k x fl rl typ wx (hbl.on ha) hty)
 have HPT:=hid (fun (wx:World) (ha:Aft W wx)=>points_calls b p k x fl rl m typ wx (hbl.on ha) (by omega) hty.1)
 obtain ⟨lb,lo,rfl,n0⟩:=int_at hlw (show ([(m:Int)]:List Int)[0]?=some (m:Int) from rfl)
 have n0:=later n0
 rw [Nat.add_zero] at n0
 have hln:ln=1:=by obtain ⟨_,_,h,_⟩:=hlw;cases h;rfl
 subst hln
 have h0d:=h0.drew
 have HEND:=hid (fun (wx:World) (ha:Aft W wx)=>ha.out hbW)
 have l1:∀ w',Aft W w'→w'.cell? ⟨w.heap.size,1,none⟩=some (.int .i64 typ):=l1
 clear HO HA HF hx0
 generalize typedB p ⟨16,typ,ra1,rb1,n,args,frm⟩ [(m:Int)]=ans at *
 generalize scalK p.types typ=q1 at *
 generalize partK p.types (m:Int) typ=q2 at *
 clear hb hl hW hbW k1 hbl hlw hx l0 hws hty
 go_enter Tryz.func164,Tryz.ntmps164
 go_upto_if 40 with fail
 refine wp_cond_true rfl (wp_exit ?_)
 repeat (first | with_reducible refine then_exit ?_ | with_reducible refine in_here ?_ | with_reducible refine in_other (by decide) ?_)
 with_reducible refine then_normal ?_
 go_upto_region 39 with fail
 rw [← HW.out]
 clear m0 m1 m4
 cases q1 with
 | false =>
  refine wp_region_noPanic ?_
  refine wp_region_Z (S:=(fun w'=>Aft W w')) (Z:=[]) (by kernel_rfl) ?_ (fun hHeld=>?_)
  ·(try dsimp only)
   (exact h0d)
  refine zP 0 rfl ?_
  refine zP 1 rfl ?_
  refine zT 2 rfl ?_
  refine zC 3 rfl (fun K hK=>?_)
  go_simp
  (with_reducible refine (HSC.out _ h0d).mono ?_)
  rintro e w2 ⟨rfl,hb2⟩
  refine hK.out _ _ ?_ (fun hHeld=>?_)
  ·(try dsimp only)
   (exact h0d.go hb2)
  clear hK K
  refine zP 4 rfl ?_
  refine zU 5 rfl ?_
  refine zU 6 rfl ?_
  refine zU 7 rfl ?_
  refine zU 8 rfl ?_
  refine zU 9 rfl ?_
  refine zU 10 rfl ?_
  refine zU 11 rfl ?_
  refine zC 12 rfl (fun K hK=>?_)
  go_simp
  refine hK.out _ _ ?_ (fun hHeld=>?_)
  ·(try dsimp only)
   (exact h0d.go hb2)
  clear hK K
  refine zT 13 rfl ?_
  try simp only [Act.put,List.setIfInBounds_toArray,List.set_cons_zero,List.set_cons_succ]
  refine wpAnyZ_done (by kernel_rfl) ?_ _
  refine NoPanic.normal ?_
  go_wp2
  go_ret
  exact ⟨by rw [HS.out];rfl,HEND.out _ (h0d.go hb2)⟩
 | true =>
  refine wp_region_noPanic ?_
  refine wp_region_Z (S:=(fun w'=>Aft W w')) (Z:=[]) (by kernel_rfl) ?_ (fun hHeld=>?_)
  ·(try dsimp only)
   (exact h0d)
  refine zP 0 rfl ?_
  refine zP 1 rfl ?_
  refine zT 2 rfl ?_
  refine zC 3 rfl (fun K hK=>?_)
  go_simp
  (with_reducible refine (HSC.out _ h0d).mono ?_)
  rintro e w2 ⟨rfl,hb2⟩
  refine hK.out _ _ ?_ (fun hHeld=>?_)
  ·(try dsimp only)
   (exact h0d.go hb2)
  clear hK K
  refine zP 4 rfl ?_
  refine zP 5 rfl ?_
  refine zP 6 rfl ?_
  refine zP 7 rfl ?_
  refine zT 8 rfl ?_
  refine zP 9 rfl ?_
  refine zT 10 rfl ?_
  refine zC 11 rfl (fun K hK=>?_)
  go_simp
  (with_reducible refine (HPT.out _ (h0d.go hb2)).mono ?_)
  rintro e w3 ⟨rfl,hb3⟩
  refine hK.out _ _ ?_ (fun hHeld=>?_)
  ·(try dsimp only)
   (exact (h0d.go hb2).go hb3)
  clear hK K
  refine zC 12 rfl (fun K hK=>?_)
  go_simp
  refine hK.out _ _ ?_ (fun hHeld=>?_)
  ·(try dsimp only)
   (exact (h0d.go hb2).go hb3)
  clear hK K
  refine zT 13 rfl ?_
  try simp only [Act.put,List.setIfInBounds_toArray,List.set_cons_zero,List.set_cons_succ]
  refine wpAnyZ_done (by kernel_rfl) ?_ _
  refine NoPanic.normal ?_
  go_wp2
  go_ret
  exact ⟨by rw [HS.out];rfl,HEND.out _ ((h0d.go hb2).go hb3)⟩

theorem fits_store (i:Ix) (aa fa la:Option Addr) (an ac fn fc ln lc:Nat) (l:List Int) (w:World) (hb:BdAt w b p k x fl rl) (hx:FitOk p i l) (hl:IntsAt w (.slice la ln lc) l) (hop:i.op=17) :
  Calls Tryz.prog 164 #[.pointer (some ⟨b,0,none⟩),ixV i (.slice aa an ac) (.slice fa fn fc),.slice la ln lc] w (BoolR (typedB p i l) w):=by
 obtain ⟨op,typ,ra1,rb1,n,args,frm⟩:=i
 have hop2:op=17:=hop
 clear hop
 subst hop2
 obtain ⟨W,hW⟩:∃ W,W=w.alloc (.cells #[.int .u8 17,.int .i64 typ,.int .i64 ra1,.int .i64 rb1,.int .i64 n,.slice aa an ac,.slice fa fn fc] 31):=⟨_,rfl⟩
 have hbW:Below w.heap.size w W:=by rw [hW];exact alloc_below _ _
 have k1:W.heap[w.heap.size]?=some (.cells #[.int .u8 17,.int .i64 typ,.int .i64 ra1,.int .i64 rb1,.int .i64 n,.slice aa an ac,.slice fa fn fc] 31 (0,0)):=by rw [hW];exact ShB.alloc_new _ _
 have hbl:=hb.below hbW
 have hlw:=hl.below hbW
 have HA:=hid (fun (kind:Int) (wx:World) (ha:Aft W wx)=>are_calls b p k x fl rl kind _ l wx (hbl.on ha) (hlw.below ha.below) hx.low)
 have HO:=hid (fun (kind m:Int) (hm:0≤m∧m < p.types.length) (wx:World) (ha:Aft W wx)=>are1_calls b p k x fl rl kind m wx (hbl.on ha) hm)
 have hws:W.heap.size=w.heap.size+1:=by rw [hW];simp
 have HF:=hid (fun (kind m:Int) (hm:0≤m∧m < p.types.length)=>hws ▸ (HO.out kind m hm W (Aft.refl W)))
 have h0:=Aft.refl W
 have HW:=hid hW
 have HBW:=hid hbW
 have l0:=later_cells k1 0 _ rfl
 have l1:=later_cells k1 1 _ rfl
 have l4:=later_cells k1 4 _ rfl
 have m0:=l0 W h0;have m1:=l1 W h0;have m4:=l4 W h0
 rw [hW] at m0 m1 m4
 obtain ⟨x0,x1,rfl⟩:=two_of hx.len
 have hx0:=hx.low x0 (by simp)
 have hx1:=hx.low x1 (by simp)
 obtain ⟨m,rfl⟩:∃ m:Nat,x0=m:=⟨x0.toNat,by omega⟩
 have HS:Hid (typedB p ⟨17,typ,ra1,rb1,n,args,frm⟩ [(m:Int),x1]=(scalK p.types x1 && partK p.types (m:Int) x1)):=by
  show _=_
  simp only [typedB,memB,partK]
  rw [if_neg (by decide),if_neg (by decide),if_neg (by decide),if_neg (by decide),if_neg (by decide),if_neg (by decide),if_neg (by decide),if_neg (by decide),if_pos (by decide),if_neg (by decide),if_neg (by decide),if_neg (by decide)]
  show (scalK p.types (toK p.types (m:Int)) && decide (x1=toK p.types (m:Int)))=_
  rw [decide_eq_true hx1.1,Bool.true_and]
  by_cases e:x1=toK p.types (m:Int)
  ·rw [← e]
  ·rw [decide_eq_false e,decide_eq_false (fun e2=>e e2.symm),Bool.and_false,Bool.and_false]
 obtain ⟨W2,hW2⟩:∃ W2,W2=w.alloc (.cells #[.int .u8 17,.int .i64 x1,.int .i64 ra1,.int .i64 rb1,.int .i64 n,.slice aa an ac,.slice fa fn fc] 31):=⟨_,rfl⟩
 have hb2:Below w.heap.size w W2:=by rw [hW2];exact alloc_below _ _
 have k2:W2.heap[w.heap.size]?=some (.cells #[.int .u8 17,.int .i64 x1,.int .i64 ra1,.int .i64 rb1,.int .i64 n,.slice aa an ac,.slice fa fn fc] 31 (0,0)):=by rw [hW2];exact ShB.alloc_new _ _
 have hbl2:=hb.below hb2
 have HSC:=hid (fun (wx:World) (ha:Aft W2 wx)=>scalar_calls b p k x fl rl x1 wx (hbl2.on ha) hx1)
 have HPT:=hid (fun (wx:World) (ha:Aft W2 wx)=>points_calls b p k x fl rl m x1 wx (hbl2.on ha) (by omega) hx1.1)
 obtain ⟨lb,lo,rfl,n0⟩:=int_at hl (show ([(m:Int),x1]:List Int)[0]?=some (m:Int) from rfl)
 obtain ⟨lb2,lo2,he2,n1⟩:=int_at hl (show ([(m:Int),x1]:List Int)[1]?=some x1 from rfl)
 cases he2
 have n0:=later n0
 have n1:=later n1
 rw [Nat.add_zero] at n0
 have hln:ln=2:=by obtain ⟨_,_,h,_⟩:=hl;cases h;rfl
 subst hln
 have n1:=n1 W hbW
 have n0:∀ w',Aft W2 w'→w'.cell? ⟨lb,lo,none⟩=some (.int .i64 (m:Int)):=fun w' ha=>n0 w' (hb2.trans (ha.below.mono hb2.size))
 have l1:∀ w',Aft W2 w'→w'.cell? ⟨w.heap.size,1,none⟩=some (.int .i64 x1):=later_cells k2 1 _ rfl
 rw [hW] at n1
 have h20:=Aft.refl W2
 have h0d:=h20.drew
 have HEND:=hid (fun (wx:World) (ha:Aft W2 wx)=>ha.out hb2)
 have HW2:=hid hW2
 clear HO HA HF hx0 hx1 hW2 hb2 k2 hbl2 l4
 generalize typedB p ⟨17,typ,ra1,rb1,n,args,frm⟩ [(m:Int),x1]=ans at *
 generalize scalK p.types x1=q1 at *
 generalize partK p.types (m:Int) x1=q2 at *
 clear hb hl hW hbW k1 hbl hlw hx l0 hws 
 go_enter Tryz.func164,Tryz.ntmps164
 go_upto_if 38 with fail
 refine wp_cond_true rfl (wp_exit ?_)
 repeat (first | with_reducible refine then_exit ?_ | with_reducible refine in_here ?_ | with_reducible refine in_other (by decide) ?_)
 with_reducible refine then_normal ?_
 go_upto_region 39 with fail
 rw [← HW2.out]
 clear m0 m1 m4
 cases q1 with
 | false =>
  refine wp_region_noPanic ?_
  refine wp_region_Z (S:=(fun w'=>Aft W2 w')) (Z:=[]) (by kernel_rfl) ?_ (fun hHeld=>?_)
  ·(try dsimp only)
   (exact h0d)
  refine zP 0 rfl ?_
  refine zP 1 rfl ?_
  refine zT 2 rfl ?_
  refine zC 3 rfl (fun K hK=>?_)
  go_simp
  (with_reducible refine (HSC.out _ h0d).mono ?_)
  rintro e w2 ⟨rfl,hb2⟩
  refine hK.out _ _ ?_ (fun hHeld=>?_)
  ·(try dsimp only)
   (exact h0d.go hb2)
  clear hK K
  refine zP 4 rfl ?_
  refine zU 5 rfl ?_
  refine zU 6 rfl ?_
  refine zU 7 rfl ?_
  refine zU 8 rfl ?_
  refine zU 9 rfl ?_
  refine zU 10 rfl ?_
  refine zU 11 rfl ?_
  refine zC 12 rfl (fun K hK=>?_)
  go_simp
  refine hK.out _ _ ?_ (fun hHeld=>?_)
  ·(try dsimp only)
   (exact h0d.go hb2)
  clear hK K
  refine zT 13 rfl ?_
  try simp only [Act.put,List.setIfInBounds_toArray,List.set_cons_zero,List.set_cons_succ]
  refine wpAnyZ_done (by kernel_rfl) ?_ _
  refine NoPanic.normal ?_
  go_wp2
  go_ret
  exact ⟨by rw [HS.out];rfl,HEND.out _ (h0d.go hb2)⟩
 | true =>
  refine wp_region_noPanic ?_
  refine wp_region_Z (S:=(fun w'=>Aft W2 w')) (Z:=[]) (by kernel_rfl) ?_ (fun hHeld=>?_)
  ·(try dsimp only)
   (exact h0d)
  refine zP 0 rfl ?_
  refine zP 1 rfl ?_
  refine zT 2 rfl ?_
  refine zC 3 rfl (fun K hK=>?_)
  go_simp
  (with_reducible refine (HSC.out _ h0d).mono ?_)
  rintro e w2 ⟨rfl,hb2⟩
  refine hK.out _ _ ?_ (fun hHeld=>?_)
  ·(try dsimp only)
   (exact h0d.go hb2)
  clear hK K
  refine zP 4 rfl ?_
  refine zP 5 rfl ?_
  refine zP 6 rfl ?_
  refine zP 7 rfl ?_
  refine zT 8 rfl ?_
  refine zP 9 rfl ?_
  refine zT 10 rfl ?_
  refine zC 11 rfl (fun K hK=>?_)
  go_simp
  (with_reducible refine (HPT.out _ (h0d.go hb2)).mono ?_)
  rintro e w3 ⟨rfl,hb3⟩
  refine hK.out _ _ ?_ (fun hHeld=>?_)
  ·(try dsimp only)
   (exact (h0d.go hb2).go hb3)
  clear hK K
  refine zC 12 rfl (fun K hK=>?_)
  go_simp
  refine hK.out _ _ ?_ (fun hHeld=>?_)
  ·(try dsimp only)
   (exact (h0d.go hb2).go hb3)
  clear hK K
  refine zT 13 rfl ?_
  try simp only [Act.put,List.setIfInBounds_toArray,List.set_cons_zero,List.set_cons_succ]
  refine wpAnyZ_done (by kernel_rfl) ?_ _
  refine NoPanic.normal ?_
  go_wp2
  go_ret
  exact ⟨by rw [HS.out];rfl,HEND.out _ ((h0d.go hb2).go hb3)⟩

theorem fits_same (i:Ix) (aa fa la:Option Addr) (an ac fn fc ln lc:Nat) (l:List Int) (w:World) (hb:BdAt w b p k x fl rl) (hx:FitOk p i l) (hl:IntsAt w (.slice la ln lc) l) (hop:i.op=10) :
  Calls Tryz.prog 164 #[.pointer (some ⟨b,0,none⟩),ixV i (.slice aa an ac) (.slice fa fn fc),.slice la ln lc] w (BoolR (typedB p i l) w):=by
 obtain ⟨op,typ,ra1,rb1,n,args,frm⟩:=i
 have hop2:op=10:=hop
 clear hop
 subst hop2
 obtain ⟨W,hW⟩:∃ W,W=w.alloc (.cells #[.int .u8 10,.int .i64 typ,.int .i64 ra1,.int .i64 rb1,.int .i64 n,.slice aa an ac,.slice fa fn fc] 31):=⟨_,rfl⟩
 have hbW:Below w.heap.size w W:=by rw [hW];exact alloc_below _ _
 have k1:W.heap[w.heap.size]?=some (.cells #[.int .u8 10,.int .i64 typ,.int .i64 ra1,.int .i64 rb1,.int .i64 n,.slice aa an ac,.slice fa fn fc] 31 (0,0)):=by rw [hW];exact ShB.alloc_new _ _
 have hbl:=hb.below hbW
 have hlw:=hl.below hbW
 have HA:=hid (fun (kind:Int) (wx:World) (ha:Aft W wx)=>are_calls b p k x fl rl kind _ l wx (hbl.on ha) (hlw.below ha.below) hx.low)
 have HO:=hid (fun (kind m:Int) (hm:0≤m∧m < p.types.length) (wx:World) (ha:Aft W wx)=>are1_calls b p k x fl rl kind m wx (hbl.on ha) hm)
 have hws:W.heap.size=w.heap.size+1:=by rw [hW];simp
 have HF:=hid (fun (kind m:Int) (hm:0≤m∧m < p.types.length)=>hws ▸ (HO.out kind m hm W (Aft.refl W)))
 have h0:=Aft.refl W
 have HW:=hid hW
 have HBW:=hid hbW
 have l0:=later_cells k1 0 _ rfl
 have l1:=later_cells k1 1 _ rfl
 have l4:=later_cells k1 4 _ rfl
 have m0:=l0 W h0;have m1:=l1 W h0;have m4:=l4 W h0
 rw [hW] at m0 m1 m4
 have hty:0≤typ∧typ < p.types.length:=hx.typ (show answersB 10=true by decide)
 have HTY:=hid hty
 obtain ⟨x0,x1,rfl⟩:=two_of hx.len
 have HS:Hid (typedB p ⟨10,typ,ra1,rb1,n,args,frm⟩ [x0,x1]=((([x0,x1]:List Int).all fun m=>isK p.types m 2) && ((x0 == x1) && isK p.types typ 1))):=by
  show _=_
  simp only [typedB]
  rw [if_neg (by decide),if_neg (by decide),if_neg (by decide),if_neg (by decide),if_pos trivial]
  show (isK p.types x0 2 && (decide (x0=x1) && isK p.types typ 1))=_
  by_cases e:x0=x1
  ·subst e;simp
  ·simp [e]
 have HA2:=hid (fun (wx:World) (ha:Aft W wx)=>HA.out 2 wx ha)
 have HO1:=hid (fun (wx:World) (ha:Aft W wx)=>HO.out 1 typ hty wx ha)
 obtain ⟨lb,lo,rfl,n0⟩:=int_at hlw (show ([x0,x1]:List Int)[0]?=some x0 from rfl)
 obtain ⟨lb2,lo2,he2,n1⟩:=int_at hlw (show ([x0,x1]:List Int)[1]?=some x1 from rfl)
 cases he2
 have n0:=later n0
 have n1:=later n1
 rw [Nat.add_zero] at n0
 have hln:ln=2:=by obtain ⟨_,_,h,_⟩:=hlw;cases h;rfl
 subst hln
 have h0d:=h0.drew
 have HEND:=hid (fun (wx:World) (ha:Aft W wx)=>ha.out hbW)
 have l1:∀ w',Aft W w'→w'.cell? ⟨w.heap.size,1,none⟩=some (.int .i64 typ):=l1
 clear HO HA HF hty
 generalize typedB p ⟨10,typ,ra1,rb1,n,args,frm⟩ [x0,x1]=ans at *
 generalize (([x0,x1]:List Int).all fun m=>isK p.types m 2)=q1 at *
 generalize isK p.types typ 1=q2 at *
 generalize hqe:(x0 == x1)=qe at *
 clear hb hl hW hbW k1 hbl hlw hx l0 hws 
 go_enter Tryz.func164,Tryz.ntmps164
 go_upto_if 21 with fail
 refine wp_cond_true rfl (wp_exit ?_)
 repeat (first | with_reducible refine then_exit ?_ | with_reducible refine in_here ?_ | with_reducible refine in_other (by decide) ?_)
 with_reducible refine then_normal ?_
 go_upto_region 27 with fail
 rw [← HW.out]
 clear m0 m1 m4
 cases q1 with
 | false =>
  refine wp_region_noPanic ?_
  refine wp_region_Z (S:=(fun w'=>Aft W w')) (Z:=[]) (by kernel_rfl) ?_ (fun hHeld=>?_)
  ·(try dsimp only)
   (exact h0d)
  refine zP 0 rfl ?_
  refine zP 1 rfl ?_
  refine zC 2 rfl (fun K hK=>?_)
  go_simp
  (with_reducible refine (HA2.out _ h0d).mono ?_)
  rintro e w2 ⟨rfl,hb2⟩
  refine hK.out _ _ ?_ (fun hHeld=>?_)
  ·(try dsimp only)
   (exact h0d.go hb2)
  clear hK K
  refine zP 3 rfl ?_
  refine zU 4 rfl ?_
  refine zU 5 rfl ?_
  refine zU 6 rfl ?_
  refine zU 7 rfl ?_
  refine zU 8 rfl ?_
  refine zU 9 rfl ?_
  refine zU 10 rfl ?_
  refine zC 11 rfl (fun K hK=>?_)
  go_simp
  refine hK.out _ _ ?_ (fun hHeld=>?_)
  ·(try dsimp only)
   (exact h0d.go hb2)
  clear hK K
  refine zP 12 rfl ?_
  refine zU 13 rfl ?_
  refine zU 14 rfl ?_
  refine zU 15 rfl ?_
  refine zU 16 rfl ?_
  refine zU 17 rfl ?_
  refine zC 18 rfl (fun K hK=>?_)
  go_simp
  refine hK.out _ _ ?_ (fun hHeld=>?_)
  ·(try dsimp only)
   (exact h0d.go hb2)
  clear hK K
  refine zT 19 rfl ?_
  try simp only [Act.put,List.setIfInBounds_toArray,List.set_cons_zero,List.set_cons_succ]
  refine wpAnyZ_done (by kernel_rfl) ?_ _
  refine NoPanic.normal ?_
  go_wp2
  go_ret
  exact ⟨by rw [HS.out];rfl,HEND.out _ (h0d.go hb2)⟩
 | true =>
  cases qe with
  | false =>
   refine wp_region_noPanic ?_
   refine wp_region_Z (S:=(fun w'=>Aft W w')) (Z:=[]) (by kernel_rfl) ?_ (fun hHeld=>?_)
   ·(try dsimp only)
    (exact h0d)
   refine zP 0 rfl ?_
   refine zP 1 rfl ?_
   refine zC 2 rfl (fun K hK=>?_)
   go_simp
   (with_reducible refine (HA2.out _ h0d).mono ?_)
   rintro e w2 ⟨rfl,hb2⟩
   refine hK.out _ _ ?_ (fun hHeld=>?_)
   ·(try dsimp only)
    (exact h0d.go hb2)
   clear hK K
   refine zP 3 rfl ?_
   refine zP 4 rfl ?_
   refine zP 5 rfl ?_
   refine zT 6 rfl ?_
   refine zP 7 rfl ?_
   refine zP 8 rfl ?_
   refine zT 9 rfl ?_
   refine zP 10 rfl ?_
   refine zC 11 rfl (fun K hK=>?_)
   go_simp
   refine hK.out _ _ ?_ (fun hHeld=>?_)
   ·(try dsimp only)
    (exact h0d.go hb2)
   clear hK K
   refine zP 12 rfl ?_
   refine zU 13 rfl ?_
   refine zU 14 rfl ?_
   refine zU 15 rfl ?_
   refine zU 16 rfl ?_
   refine zU 17 rfl ?_
   refine zC 18 rfl (fun K hK=>?_)
   go_simp
   refine hK.out _ _ ?_ (fun hHeld=>?_)
   ·(try dsimp only)
    (exact h0d.go hb2)
   clear hK K
   refine zT 19 rfl ?_
   try simp only [Act.put,List.setIfInBounds_toArray,List.set_cons_zero,List.set_cons_succ]
   refine wpAnyZ_done (by kernel_rfl) ?_ _
   refine NoPanic.normal ?_
   go_wp2
   go_ret
   exact ⟨by rw [HS.out];rfl,HEND.out _ (h0d.go hb2)⟩
  | true =>
   refine wp_region_noPanic ?_
   refine wp_region_Z (S:=(fun w'=>Aft W w')) (Z:=[]) (by kernel_rfl) ?_ (fun hHeld=>?_)
   ·(try dsimp only)
    (exact h0d)
   refine zP 0 rfl ?_
   refine zP 1 rfl ?_
   refine zC 2 rfl (fun K hK=>?_)
   go_simp
   (with_reducible refine (HA2.out _ h0d).mono ?_)
   rintro e w2 ⟨rfl,hb2⟩
   refine hK.out _ _ ?_ (fun hHeld=>?_)
   ·(try dsimp only)
    (exact h0d.go hb2)
   clear hK K
   refine zP 3 rfl ?_
   refine zP 4 rfl ?_
   refine zP 5 rfl ?_
   refine zT 6 rfl ?_
   refine zP 7 rfl ?_
   refine zP 8 rfl ?_
   refine zT 9 rfl ?_
   refine zP 10 rfl ?_
   refine zC 11 rfl (fun K hK=>?_)
   go_simp
   refine hK.out _ _ ?_ (fun hHeld=>?_)
   ·(try dsimp only)
    (exact h0d.go hb2)
   clear hK K
   refine zP 12 rfl ?_
   refine zP 13 rfl ?_
   refine zP 14 rfl ?_
   refine zT 15 rfl ?_
   refine zC 16 rfl (fun K hK=>?_)
   go_simp
   refine hK.out _ _ ?_ (fun hHeld=>?_)
   ·(try dsimp only)
    (exact (h0d.go hb2).alloc _)
   clear hK K
   refine zC 17 rfl (fun K hK=>?_)
   go_simp
   (with_reducible refine (HO1.out _ (h0d.go hb2)).mono ?_)
   rintro e w3 ⟨rfl,hb3⟩
   refine hK.out _ _ ?_ (fun hHeld=>?_)
   ·(try dsimp only)
    (exact (h0d.go hb2).go hb3)
   clear hK K
   refine zC 18 rfl (fun K hK=>?_)
   go_simp
   refine hK.out _ _ ?_ (fun hHeld=>?_)
   ·(try dsimp only)
    (exact (h0d.go hb2).go hb3)
   clear hK K
   refine zT 19 rfl ?_
   try simp only [Act.put,List.setIfInBounds_toArray,List.set_cons_zero,List.set_cons_succ]
   refine wpAnyZ_done (by kernel_rfl) ?_ _
   refine NoPanic.normal ?_
   go_wp2
   go_ret
   exact ⟨by rw [HS.out];rfl,HEND.out _ ((h0d.go hb2).go hb3)⟩

theorem fits_field (i:Ix) (aa fa la:Option Addr) (an ac fn fc ln lc:Nat) (l:List Int) (w:World) (hb:BdAt w b p k x fl rl) (hx:FitOk p i l) (hl:IntsAt w (.slice la ln lc) l) (hop:i.op=14) :
  Calls Tryz.prog 164 #[.pointer (some ⟨b,0,none⟩),ixV i (.slice aa an ac) (.slice fa fn fc),.slice la ln lc] w (BoolR (typedB p i l) w):=by
 obtain ⟨op,typ,ra1,rb1,n,args,frm⟩:=i
 have hop2:op=14:=hop
 clear hop
 subst hop2
 obtain ⟨W,hW⟩:∃ W,W=w.alloc (.cells #[.int .u8 14,.int .i64 typ,.int .i64 ra1,.int .i64 rb1,.int .i64 n,.slice aa an ac,.slice fa fn fc] 31):=⟨_,rfl⟩
 have hbW:Below w.heap.size w W:=by rw [hW];exact alloc_below _ _
 have k1:W.heap[w.heap.size]?=some (.cells #[.int .u8 14,.int .i64 typ,.int .i64 ra1,.int .i64 rb1,.int .i64 n,.slice aa an ac,.slice fa fn fc] 31 (0,0)):=by rw [hW];exact ShB.alloc_new _ _
 have hbl:=hb.below hbW
 have hlw:=hl.below hbW
 have HA:=hid (fun (kind:Int) (wx:World) (ha:Aft W wx)=>are_calls b p k x fl rl kind _ l wx (hbl.on ha) (hlw.below ha.below) hx.low)
 have HO:=hid (fun (kind m:Int) (hm:0≤m∧m < p.types.length) (wx:World) (ha:Aft W wx)=>are1_calls b p k x fl rl kind m wx (hbl.on ha) hm)
 have hws:W.heap.size=w.heap.size+1:=by rw [hW];simp
 have HF:=hid (fun (kind m:Int) (hm:0≤m∧m < p.types.length)=>hws ▸ (HO.out kind m hm W (Aft.refl W)))
 have h0:=Aft.refl W
 have HW:=hid hW
 have HBW:=hid hbW
 have l0:=later_cells k1 0 _ rfl
 have l1:=later_cells k1 1 _ rfl
 have l4:=later_cells k1 4 _ rfl
 have m0:=l0 W h0;have m1:=l1 W h0;have m4:=l4 W h0
 rw [hW] at m0 m1 m4
 have hty:0≤typ∧typ < p.types.length:=hx.typ (show answersB 14=true by decide)
 have HTY:=hid hty
 obtain ⟨x0,rfl⟩:=one_of hx.len
 have hx0:=hx.low x0 (by simp)
 obtain ⟨m,rfl⟩:∃ m:Nat,x0=m:=⟨x0.toNat,by omega⟩
 have hyc:=under_ok (t:=p.types) (n:=(m:Int)) hx.chkT
 obtain ⟨f0,f8⟩:=hx.n14 rfl
 have hf0:(0:Int)≤n:=f0
 obtain ⟨j,rfl⟩:∃ j:Nat,n=(j:Int):=⟨n.toNat,by omega⟩
 have HS:Hid (typedB p ⟨14,typ,ra1,rb1,(j:Int),args,frm⟩ [(m:Int)]=(decide ((underT p.types m).kind=4) && (decide (j < (underT p.types m).parts.length) && partK p.types typ (((underT p.types m).parts[j]?).getD 0)))):=by
  show _=_
  simp only [typedB,memB]
  rw [if_neg (by decide),if_neg (by decide),if_neg (by decide),if_neg (by decide),if_neg (by decide),if_neg (by decide),if_neg (by decide),if_neg (by decide),if_pos (by decide),if_pos trivial]
  exact field_is hx.chkT
 have hpart:(underT p.types m).kind=4→∀ u,(underT p.types m).parts[j]?=some u→0≤u:=fun h u hu=>hyc.1 h u (List.mem_of_getElem? hu)
 have HPT:=hid (fun (u:Int) (hu:0≤u) (wx:World) (ha:Aft W wx)=>points_calls b p k x fl rl typ.toNat u wx (hbl.on ha) (by omega) hu)
 have htn:((typ.toNat:Nat):Int)=typ:=by omega
 rw [htn] at HPT
 have HUN:=hid (fun (wx:World) (ha:Aft W wx)=>under_calls b p k x fl rl m wx (hbl.on ha) hx.chkT (by omega))
 obtain ⟨lb,lo,rfl,n0⟩:=int_at hlw (show ([(m:Int)]:List Int)[0]?=some (m:Int) from rfl)
 have n0:=later n0
 rw [Nat.add_zero] at n0
 have hln:ln=1:=by obtain ⟨_,_,h,_⟩:=hlw;cases h;rfl
 subst hln
 have l1:∀ w',Aft W w'→w'.cell? ⟨w.heap.size,1,none⟩=some (.int .i64 typ):=l1
 have l4:∀ w',Aft W w'→w'.cell? ⟨w.heap.size,4,none⟩=some (.int .i64 (j:Int)):=l4
 have HEND:=hid (fun (wx:World) (ha:Aft W wx)=>ha.out hbW)
 have n0:=n0 W h0
 rw [hW] at n0
 clear HO HA HF hx0 hf0 f0 f8 htn
 generalize typedB p ⟨14,typ,ra1,rb1,(j:Int),args,frm⟩ [(m:Int)]=ans at *
 generalize partK p.types typ=pk at *
 clear hb hl hW hbW k1 hbl hlw hx l0 hws hty
 go_enter Tryz.func164,Tryz.ntmps164
 go_upto_if 34 with fail
 refine wp_cond_true rfl (wp_exit ?_)
 repeat (first | with_reducible refine then_exit ?_ | with_reducible refine in_here ?_ | with_reducible refine in_other (by decide) ?_)
 with_reducible refine then_normal ?_
 go_wp2_with fail
 rw [← HW.out]
 refine (HUN.out _ h0).mono ?_
 rintro e w1 ⟨pa,pc,rfl,hp1,hb1⟩
 have h1:=h0.go hb1
 clear hb1 HUN
 generalize underT p.types (m:Int)=y at *
 obtain ⟨yk,ye,ym,yp⟩:=y
 obtain ⟨W2,hW2⟩:∃ W2,W2=w1.alloc (.cells #[.int .u8 yk,.int .i64 ye,.int .i64 ym,.slice pa yp.length pc] 43):=⟨_,rfl⟩
 have hb2:Below w1.heap.size w1 W2:=by rw [hW2];exact alloc_below _ _
 have k2:W2.heap[w1.heap.size]?=some (.cells #[.int .u8 yk,.int .i64 ye,.int .i64 ym,.slice pa yp.length pc] 43 (0,0)):=by rw [hW2];exact ShB.alloc_new _ _
 have ha2:Aft W W2:=h1.go hb2
 have hp2:=hp1.below hb2
 have y0:∀ w',Aft W2 w'→w'.cell? ⟨w1.heap.size,0,none⟩=some (.int .u8 yk):=later_cells k2 0 _ rfl
 have y1:∀ w',Aft W2 w'→w'.cell? ⟨w1.heap.size,1,none⟩=some (.int .i64 ye):=later_cells k2 1 _ rfl
 have y3:∀ w',Aft W2 w'→w'.cell? ⟨w1.heap.size,3,none⟩=some (.slice pa yp.length pc):=later_cells k2 3 _ rfl
 have b1:∀ w',Aft W2 w'→w'.cell? ⟨w.heap.size,1,none⟩=some (.int .i64 typ):=fun w' ha=>l1 w' (ha2.trans ha)
 have b4:∀ w',Aft W2 w'→w'.cell? ⟨w.heap.size,4,none⟩=some (.int .i64 (j:Int)):=fun w' ha=>l4 w' (ha2.trans ha)
 have h20:=Aft.refl W2
 have h2d:=h20.drew
 have HW2:=hid hW2
 try simp only at HS
 clear hp1 hb2 k2 hW2 l1 l4 h1
 go_upto_region 35 with fail
 rw [← HW2.out]
 try simp only at hpart
 clear m0 m1 m4
 by_cases hk:yk=4
 rotate_left
 ·have e1:(yk == 4)=false:=by rw [beq_eq_false_iff_ne];exact hk
  rw [decide_eq_false hk] at HS
  clear hk hpart hyc
  refine wp_region_noPanic ?_
  refine wp_region_Z (S:=(fun w'=>Aft W2 w')) (Z:=[]) (by kernel_rfl) ?_ (fun hHeld=>?_)
  ·(try dsimp only)
   (exact h2d)
  refine zP 0 rfl ?_
  refine zT 1 rfl ?_
  refine zP 2 rfl ?_
  refine zP 3 rfl ?_
  refine zU 4 rfl ?_
  refine zU 5 rfl ?_
  refine zU 6 rfl ?_
  refine zU 7 rfl ?_
  refine zU 8 rfl ?_
  refine zU 9 rfl ?_
  refine zC 10 rfl (fun K hK=>?_)
  go_simp
  refine hK.out _ _ ?_ (fun hHeld=>?_)
  ·(try dsimp only)
   (exact h2d)
  clear hK K
  refine zP 11 rfl ?_
  refine zU 12 rfl ?_
  refine zU 13 rfl ?_
  refine zU 14 rfl ?_
  refine zU 15 rfl ?_
  refine zU 16 rfl ?_
  refine zU 17 rfl ?_
  refine zU 18 rfl ?_
  refine zU 19 rfl ?_
  refine zU 20 rfl ?_
  refine zU 21 rfl ?_
  refine zC 22 rfl (fun K hK=>?_)
  go_simp
  refine hK.out _ _ ?_ (fun hHeld=>?_)
  ·(try dsimp only)
   (exact h2d)
  clear hK K
  refine zT 23 rfl ?_
  try simp only [Act.put,List.setIfInBounds_toArray,List.set_cons_zero,List.set_cons_succ]
  refine wpAnyZ_done (by kernel_rfl) ?_ _
  refine NoPanic.normal ?_
  go_wp2
  go_ret
  exact ⟨by rw [HS.out];rfl,HEND.out _ (ha2.trans h2d)⟩
 by_cases hj:j < yp.length
 rotate_left
 ·have e1:(yk == 4)=true:=by rw [beq_iff_eq];exact hk
  rw [decide_eq_true hk,decide_eq_false hj] at HS
  have hji:¬ (j:Int) < (yp.length:Int):=by omega
  clear hk hpart hyc hj
  refine wp_region_noPanic ?_
  refine wp_region_Z (S:=(fun w'=>Aft W2 w')) (Z:=[]) (by kernel_rfl) ?_ (fun hHeld=>?_)
  ·(try dsimp only)
   (exact h2d)
  refine zP 0 rfl ?_
  refine zT 1 rfl ?_
  refine zP 2 rfl ?_
  refine zP 3 rfl ?_
  refine zP 4 rfl ?_
  refine zT 5 rfl ?_
  refine zP 6 rfl ?_
  refine zT 7 rfl ?_
  refine zT 8 rfl ?_
  refine zP 9 rfl ?_
  refine zC 10 rfl (fun K hK=>?_)
  go_simp
  refine hK.out _ _ ?_ (fun hHeld=>?_)
  ·(try dsimp only)
   (exact h2d)
  clear hK K
  refine zP 11 rfl ?_
  refine zU 12 rfl ?_
  refine zU 13 rfl ?_
  refine zU 14 rfl ?_
  refine zU 15 rfl ?_
  refine zU 16 rfl ?_
  refine zU 17 rfl ?_
  refine zU 18 rfl ?_
  refine zU 19 rfl ?_
  refine zU 20 rfl ?_
  refine zU 21 rfl ?_
  refine zC 22 rfl (fun K hK=>?_)
  go_simp
  refine hK.out _ _ ?_ (fun hHeld=>?_)
  ·(try dsimp only)
   (exact h2d)
  clear hK K
  refine zT 23 rfl ?_
  try simp only [Act.put,List.setIfInBounds_toArray,List.set_cons_zero,List.set_cons_succ]
  refine wpAnyZ_done (by kernel_rfl) ?_ _
  refine NoPanic.normal ?_
  go_wp2
  go_ret
  exact ⟨by rw [HS.out];rfl,HEND.out _ (ha2.trans h2d)⟩
 ·obtain ⟨u,hu⟩:=some_at hj
  have e1:(yk == 4)=true:=by rw [beq_iff_eq];exact hk
  have HU:=hid (hpart hk u hu)
  obtain ⟨pg,po,rfl,c0⟩:=int_at hp2 hu
  have c0:=later c0
  rw [decide_eq_true hk,decide_eq_true hj,hu] at HS
  simp only [Option.getD_some] at HS
  have hji:(j:Int) < (yp.length:Int):=by omega
  clear hk hpart hyc hj hu hp2
  refine wp_region_noPanic ?_
  refine wp_region_Z (S:=(fun w'=>Aft W2 w')) (Z:=[]) (by kernel_rfl) ?_ (fun hHeld=>?_)
  ·(try dsimp only)
   (exact h2d)
  refine zP 0 rfl ?_
  refine zT 1 rfl ?_
  refine zP 2 rfl ?_
  refine zP 3 rfl ?_
  refine zP 4 rfl ?_
  refine zT 5 rfl ?_
  refine zP 6 rfl ?_
  refine zT 7 rfl ?_
  refine zT 8 rfl ?_
  refine zP 9 rfl ?_
  refine zC 10 rfl (fun K hK=>?_)
  go_simp
  refine hK.out _ _ ?_ (fun hHeld=>?_)
  ·(try dsimp only)
   (exact h2d)
  clear hK K
  refine zP 11 rfl ?_
  refine zP 12 rfl ?_
  refine zP 13 rfl ?_
  refine zT 14 rfl ?_
  refine zP 15 rfl ?_
  refine zT 16 rfl ?_
  refine zP 17 rfl ?_
  refine zT 18 rfl ?_
  refine zP 19 rfl ?_
  refine zT 20 rfl ?_
  refine zC 21 rfl (fun K hK=>?_)
  go_simp
  (with_reducible refine (HPT.out _ HU.out _ (ha2.trans h2d)).mono ?_)
  rintro e w3 ⟨rfl,hb3⟩
  refine hK.out _ _ ?_ (fun hHeld=>?_)
  ·(try dsimp only)
   (exact h2d.go hb3)
  clear hK K
  refine zC 22 rfl (fun K hK=>?_)
  go_simp
  refine hK.out _ _ ?_ (fun hHeld=>?_)
  ·(try dsimp only)
   (exact h2d.go hb3)
  clear hK K
  refine zT 23 rfl ?_
  try simp only [Act.put,List.setIfInBounds_toArray,List.set_cons_zero,List.set_cons_succ]
  refine wpAnyZ_done (by kernel_rfl) ?_ _
  refine NoPanic.normal ?_
  go_wp2
  go_ret
  exact ⟨by rw [HS.out];rfl,HEND.out _ (ha2.trans (h2d.go hb3))⟩

theorem fits_elem (i:Ix) (aa fa la:Option Addr) (an ac fn fc ln lc:Nat) (l:List Int) (w:World) (hb:BdAt w b p k x fl rl) (hx:FitOk p i l) (hl:IntsAt w (.slice la ln lc) l) (hop:i.op=15) :
  Calls Tryz.prog 164 #[.pointer (some ⟨b,0,none⟩),ixV i (.slice aa an ac) (.slice fa fn fc),.slice la ln lc] w (BoolR (typedB p i l) w):=by
 obtain ⟨op,typ,ra1,rb1,n,args,frm⟩:=i
 have hop2:op=15:=hop
 clear hop
 subst hop2
 obtain ⟨W,hW⟩:∃ W,W=w.alloc (.cells #[.int .u8 15,.int .i64 typ,.int .i64 ra1,.int .i64 rb1,.int .i64 n,.slice aa an ac,.slice fa fn fc] 31):=⟨_,rfl⟩
 have hbW:Below w.heap.size w W:=by rw [hW];exact alloc_below _ _
 have k1:W.heap[w.heap.size]?=some (.cells #[.int .u8 15,.int .i64 typ,.int .i64 ra1,.int .i64 rb1,.int .i64 n,.slice aa an ac,.slice fa fn fc] 31 (0,0)):=by rw [hW];exact ShB.alloc_new _ _
 have hbl:=hb.below hbW
 have hlw:=hl.below hbW
 have HA:=hid (fun (kind:Int) (wx:World) (ha:Aft W wx)=>are_calls b p k x fl rl kind _ l wx (hbl.on ha) (hlw.below ha.below) hx.low)
 have HO:=hid (fun (kind m:Int) (hm:0≤m∧m < p.types.length) (wx:World) (ha:Aft W wx)=>are1_calls b p k x fl rl kind m wx (hbl.on ha) hm)
 have hws:W.heap.size=w.heap.size+1:=by rw [hW];simp
 have HF:=hid (fun (kind m:Int) (hm:0≤m∧m < p.types.length)=>hws ▸ (HO.out kind m hm W (Aft.refl W)))
 have h0:=Aft.refl W
 have HW:=hid hW
 have HBW:=hid hbW
 have l0:=later_cells k1 0 _ rfl
 have l1:=later_cells k1 1 _ rfl
 have l4:=later_cells k1 4 _ rfl
 have m0:=l0 W h0;have m1:=l1 W h0;have m4:=l4 W h0
 rw [hW] at m0 m1 m4
 have hty:0≤typ∧typ < p.types.length:=hx.typ (show answersB 15=true by decide)
 have HTY:=hid hty
 obtain ⟨x0,x1,rfl⟩:=two_of hx.len
 have hx1:=hx.low x1 (by simp)
 have hx0:=hx.low x0 (by simp)
 obtain ⟨m,rfl⟩:∃ m:Nat,x0=m:=⟨x0.toNat,by omega⟩
 have hyc:=under_ok (t:=p.types) (n:=(m:Int)) hx.chkT
 have HS:Hid (typedB p ⟨15,typ,ra1,rb1,n,args,frm⟩ [(m:Int),x1]=(decide ((underT p.types m).kind=5) && (isK p.types x1 1 && partK p.types typ (underT p.types m).elem))):=by
  show _=_
  simp only [typedB,memB]
  rw [if_neg (by decide),if_neg (by decide),if_neg (by decide),if_neg (by decide),if_neg (by decide),if_neg (by decide),if_neg (by decide),if_neg (by decide),if_pos (by decide),if_neg (by decide),if_pos trivial]
  exact elem_is hx.chkT
 have HPT:=hid (fun (u:Int) (hu:0≤u) (wx:World) (ha:Aft W wx)=>points_calls b p k x fl rl typ.toNat u wx (hbl.on ha) (by omega) hu)
 have htn:((typ.toNat:Nat):Int)=typ:=by omega
 rw [htn] at HPT
 have HO1:=hid (fun (wx:World) (ha:Aft W wx)=>HO.out 1 x1 hx1 wx ha)
 obtain ⟨lb2,lo2,he2,n1⟩:=int_at hlw (show ([(m:Int),x1]:List Int)[1]?=some x1 from rfl)
 have n1:=later n1
 have HUN:=hid (fun (wx:World) (ha:Aft W wx)=>under_calls b p k x fl rl m wx (hbl.on ha) hx.chkT (by omega))
 obtain ⟨lb,lo,rfl,n0⟩:=int_at hlw (show ([(m:Int),x1]:List Int)[0]?=some (m:Int) from rfl)
 cases he2
 have n0:=later n0
 rw [Nat.add_zero] at n0
 have hln:ln=2:=by obtain ⟨_,_,h,_⟩:=hlw;cases h;rfl
 subst hln
 have l1:∀ w',Aft W w'→w'.cell? ⟨w.heap.size,1,none⟩=some (.int .i64 typ):=l1
 have l4:∀ w',Aft W w'→w'.cell? ⟨w.heap.size,4,none⟩=some (.int .i64 n):=l4
 have HEND:=hid (fun (wx:World) (ha:Aft W wx)=>ha.out hbW)
 have n0:=n0 W h0
 rw [hW] at n0
 clear HO HA HF hx0 hx1 htn
 generalize typedB p ⟨15,typ,ra1,rb1,n,args,frm⟩ [(m:Int),x1]=ans at *
 generalize partK p.types typ=pk at *
 generalize isK p.types x1 1=q1 at *
 clear hb hl hW hbW k1 hbl hlw hx l0 hws hty
 go_enter Tryz.func164,Tryz.ntmps164
 go_upto_if 36 with fail
 refine wp_cond_true rfl (wp_exit ?_)
 repeat (first | with_reducible refine then_exit ?_ | with_reducible refine in_here ?_ | with_reducible refine in_other (by decide) ?_)
 with_reducible refine then_normal ?_
 go_wp2_with fail
 rw [← HW.out]
 refine (HUN.out _ h0).mono ?_
 rintro e w1 ⟨pa,pc,rfl,hp1,hb1⟩
 have h1:=h0.go hb1
 clear hb1 HUN
 generalize underT p.types (m:Int)=y at *
 obtain ⟨yk,ye,ym,yp⟩:=y
 obtain ⟨W2,hW2⟩:∃ W2,W2=w1.alloc (.cells #[.int .u8 yk,.int .i64 ye,.int .i64 ym,.slice pa yp.length pc] 43):=⟨_,rfl⟩
 have hb2:Below w1.heap.size w1 W2:=by rw [hW2];exact alloc_below _ _
 have k2:W2.heap[w1.heap.size]?=some (.cells #[.int .u8 yk,.int .i64 ye,.int .i64 ym,.slice pa yp.length pc] 43 (0,0)):=by rw [hW2];exact ShB.alloc_new _ _
 have ha2:Aft W W2:=h1.go hb2
 have hp2:=hp1.below hb2
 have y0:∀ w',Aft W2 w'→w'.cell? ⟨w1.heap.size,0,none⟩=some (.int .u8 yk):=later_cells k2 0 _ rfl
 have y1:∀ w',Aft W2 w'→w'.cell? ⟨w1.heap.size,1,none⟩=some (.int .i64 ye):=later_cells k2 1 _ rfl
 have y3:∀ w',Aft W2 w'→w'.cell? ⟨w1.heap.size,3,none⟩=some (.slice pa yp.length pc):=later_cells k2 3 _ rfl
 have b1:∀ w',Aft W2 w'→w'.cell? ⟨w.heap.size,1,none⟩=some (.int .i64 typ):=fun w' ha=>l1 w' (ha2.trans ha)
 have b4:∀ w',Aft W2 w'→w'.cell? ⟨w.heap.size,4,none⟩=some (.int .i64 n):=fun w' ha=>l4 w' (ha2.trans ha)
 have h20:=Aft.refl W2
 have h2d:=h20.drew
 have HW2:=hid hW2
 try simp only at HS
 clear hp1 hb2 k2 hW2 l1 l4 h1
 have z0:=y0 W2 h20
 rw [HW2.out] at z0
 by_cases hk:yk=5
 rotate_left
 ·have e1:(yk == 5)=false:=by rw [beq_eq_false_iff_ne];exact hk
  rw [decide_eq_false hk] at HS
  clear hk hyc
  go_wp2
  go_ret
  exact ⟨by rw [HS.out];rfl,by rw [← HW2.out];exact HEND.out _ ha2⟩
 ·have e1:(yk == 5)=true:=by rw [beq_iff_eq];exact hk
  have HU:=hid (hyc.2 hk)
  rw [decide_eq_true hk] at HS
  have n1:=n1 W2 ha2
  have b1:=b1
  clear hk hyc
  rw [HW2.out] at n1
  have HF1:=hid (HO1.out _ ha2)
  have hs2:W2.heap.size=w1.heap.size+1:=by rw [HW2.out];simp
  rw [hs2] at HF1
  clear hs2
  go_wp2_with fail
  rw [← HW2.out]
  refine HF1.out.mono ?_
  rintro e w3 ⟨rfl,hb3⟩
  have h3:=h20.go hb3
  have b1:=b1 w3 h3
  have y1:=y1 w3 h3
  clear hb3 HF1 HO1
  cases q1 with
  | false =>
   go_wp2
   go_ret
   exact ⟨by rw [HS.out];rfl,HEND.out _ (ha2.trans h3)⟩
  | true =>
   go_wp2_with fail
   refine (HPT.out _ HU.out _ (ha2.trans h3)).mono ?_
   rintro e w4 ⟨rfl,hb4⟩
   have h4:=h3.go hb4
   clear hb4 HPT
   go_wp2
   go_ret
   exact ⟨by rw [HS.out];rfl,HEND.out _ (ha2.trans h4)⟩

theorem fits_icall (i:Ix) (aa fa la:Option Addr) (an ac fn fc ln lc:Nat) (l:List Int) (w:World) (hb:BdAt w b p k x fl rl) (hx:FitOk p i l) (hl:IntsAt w (.slice la ln lc) l) (hop:i.op=19) :
  Calls Tryz.prog 164 #[.pointer (some ⟨b,0,none⟩),ixV i (.slice aa an ac) (.slice fa fn fc),.slice la ln lc] w (BoolR (typedB p i l) w):=by
 obtain ⟨op,typ,ra1,rb1,n,args,frm⟩:=i
 have hop2:op=19:=hop
 clear hop
 subst hop2
 obtain ⟨W,hW⟩:∃ W,W=w.alloc (.cells #[.int .u8 19,.int .i64 typ,.int .i64 ra1,.int .i64 rb1,.int .i64 n,.slice aa an ac,.slice fa fn fc] 31):=⟨_,rfl⟩
 have hbW:Below w.heap.size w W:=by rw [hW];exact alloc_below _ _
 have k1:W.heap[w.heap.size]?=some (.cells #[.int .u8 19,.int .i64 typ,.int .i64 ra1,.int .i64 rb1,.int .i64 n,.slice aa an ac,.slice fa fn fc] 31 (0,0)):=by rw [hW];exact ShB.alloc_new _ _
 have hbl:=hb.below hbW
 have hlw:=hl.below hbW
 have HA:=hid (fun (kind:Int) (wx:World) (ha:Aft W wx)=>are_calls b p k x fl rl kind _ l wx (hbl.on ha) (hlw.below ha.below) hx.low)
 have HO:=hid (fun (kind m:Int) (hm:0≤m∧m < p.types.length) (wx:World) (ha:Aft W wx)=>are1_calls b p k x fl rl kind m wx (hbl.on ha) hm)
 have hws:W.heap.size=w.heap.size+1:=by rw [hW];simp
 have HF:=hid (fun (kind m:Int) (hm:0≤m∧m < p.types.length)=>hws ▸ (HO.out kind m hm W (Aft.refl W)))
 have h0:=Aft.refl W
 have HW:=hid hW
 have HBW:=hid hbW
 have l0:=later_cells k1 0 _ rfl
 have l1:=later_cells k1 1 _ rfl
 have l4:=later_cells k1 4 _ rfl
 have m0:=l0 W h0;have m1:=l1 W h0;have m4:=l4 W h0
 rw [hW] at m0 m1 m4
 obtain ⟨x0,rest,rfl⟩:∃ x0 rest,l=x0 :: rest:=by
  cases l with
  | nil =>
   have h:(0:Nat)=_:=hx.len
   unfold usesOf hasAB twoB argsB at h
   simp at h
  | cons a r=>exact ⟨a,r,rfl⟩
 have hx0:=hx.low x0 (by simp)
 obtain ⟨m,rfl⟩:∃ m:Nat,x0=m:=⟨x0.toNat,by omega⟩
 have HS:Hid (typedB p ⟨19,typ,ra1,rb1,n,args,frm⟩ ((m:Int) :: rest)=(isK p.types (m:Int) 3 && callK p.types (m:Int) rest typ)):=by
  show _=_
  simp only [typedB]
  rw [if_neg (by decide),if_neg (by decide),if_neg (by decide),if_neg (by decide),if_neg (by decide),if_neg (by decide),if_neg (by decide),if_neg (by decide),if_neg (by decide),if_neg (by decide),if_pos trivial]
  show callK p.types (m:Int) rest typ=_
  unfold callK
  cases isK p.types (m:Int) 3<;>rfl
 have hln:ln=((m:Int) :: rest).length:=by obtain ⟨_,_,h,_⟩:=hlw;cases h;rfl
 subst hln
 have hcap:=SwX.ints_cap hlw
 obtain ⟨lb,lo,rfl,n0⟩:=int_at hlw (show ((m:Int) :: rest)[0]?=some (m:Int) from rfl)
 have n0:=later n0
 rw [Nat.add_zero] at n0
 have hdr:=ints_drop2 hlw (show 1≤((m:Int) :: rest).length by simp)
 have HCL:=hid (fun (h3:isK p.types (m:Int) 3=true) (wx:World) (ha:Aft W wx)=>calls_calls b p k x fl rl m _ rest typ wx (hbl.on ha) (by omega) (hdr.below ha.below) h3)
 have HO3:=hid (show Calls Tryz.prog 195 #[.pointer (some ⟨b,0,none⟩),.int .u8 3,.slice (some ⟨W.heap.size,0,none⟩) 1 1] (W.alloc (.cells #[.int .i64 (m:Int)] 3)).drew (BoolR (isK p.types (m:Int) 3) W.drew) from HO.out 3 m hx0 W.drew h0.drew)
 have hcapi:(((m:Int) :: rest).length:Int)≤(lc:Int):=by omega
 have h1l:1≤((m:Int) :: rest).length:=by simp
 have h1li:(1:Int)≤(((m:Int) :: rest).length:Int):=by omega
 have h1ci:(1:Int)≤(lc:Int):=by omega
 have h0i:(0:Int) < (((m:Int) :: rest).length:Int):=by omega
 have h0n:0 < ((m:Int) :: rest).length:=h1l
 have h0d:=h0.drew
 have HEND:=hid (fun (wx:World) (ha:Aft W wx)=>ha.out hbW)
 have l1:∀ w',Aft W w'→w'.cell? ⟨w.heap.size,1,none⟩=some (.int .i64 typ):=l1
 clear HO HA HF hx0 hdr
 generalize typedB p ⟨19,typ,ra1,rb1,n,args,frm⟩ ((m:Int) :: rest)=ans at *
 generalize callK p.types (m:Int) rest typ=q2 at *
 generalize hq1:isK p.types (m:Int) 3=q1 at *
 generalize ((m:Int) :: rest).length=q3 at *
 clear hb hl hW hbW k1 hbl hlw hx l0 hws 
 by_cases hlc:lc=1
 ·subst hlc
  obtain rfl:q3=1:=by omega
  have HCL:=HCL.out
  simp only [if_true,Nat.sub_self] at HCL
  have HCL:=hid HCL
  clear hcapi
  go_enter Tryz.func164,Tryz.ntmps164
  go_upto_if 44 with fail
  refine wp_cond_true rfl (wp_exit ?_)
  repeat (first | with_reducible refine then_exit ?_ | with_reducible refine in_here ?_ | with_reducible refine in_other (by decide) ?_)
  with_reducible refine then_normal ?_
  go_upto_region 41 with fail
  rw [← HW.out]
  clear m0 m1 m4
  cases q1 with
  | false =>
   refine wp_region_noPanic ?_
   refine wp_region_Z (S:=(fun w'=>Aft W w')) (Z:=[]) (by kernel_rfl) ?_ (fun hHeld=>?_)
   ·(try dsimp only)
    (exact h0d)
   refine zP 0 rfl ?_
   refine zP 1 rfl ?_
   refine zP 2 rfl ?_
   refine zT 3 rfl ?_
   refine zC 4 rfl (fun K hK=>?_)
   go_simp
   refine hK.out _ _ ?_ (fun hHeld=>?_)
   ·(try dsimp only)
    (exact h0d.alloc _)
   clear hK K
   refine zC 5 rfl (fun K hK=>?_)
   go_simp
   (with_reducible refine HO3.out.mono ?_)
   rintro e w2 ⟨rfl,hb2⟩
   refine hK.out _ _ ?_ (fun hHeld=>?_)
   ·(try dsimp only)
    (exact h0d.go hb2)
   clear hK K
   refine zP 6 rfl ?_
   refine zU 7 rfl ?_
   refine zU 8 rfl ?_
   refine zU 9 rfl ?_
   refine zU 10 rfl ?_
   refine zU 11 rfl ?_
   refine zU 12 rfl ?_
   refine zU 13 rfl ?_
   refine zU 14 rfl ?_
   refine zU 15 rfl ?_
   refine zC 16 rfl (fun K hK=>?_)
   go_simp
   refine hK.out _ _ ?_ (fun hHeld=>?_)
   ·(try dsimp only)
    (exact h0d.go hb2)
   clear hK K
   refine zT 17 rfl ?_
   try simp only [Act.put,List.setIfInBounds_toArray,List.set_cons_zero,List.set_cons_succ]
   refine wpAnyZ_done (by kernel_rfl) ?_ _
   refine NoPanic.normal ?_
   go_wp2
   go_ret
   exact ⟨by rw [HS.out];rfl,HEND.out _ (h0d.go hb2)⟩
  | true =>
   have HCL:=hid (HCL.out rfl)
   refine wp_region_noPanic ?_
   refine wp_region_Z (S:=(fun w'=>Aft W w')) (Z:=[]) (by kernel_rfl) ?_ (fun hHeld=>?_)
   ·(try dsimp only)
    (exact h0d)
   refine zP 0 rfl ?_
   refine zP 1 rfl ?_
   refine zP 2 rfl ?_
   refine zT 3 rfl ?_
   refine zC 4 rfl (fun K hK=>?_)
   go_simp
   refine hK.out _ _ ?_ (fun hHeld=>?_)
   ·(try dsimp only)
    (exact h0d.alloc _)
   clear hK K
   refine zC 5 rfl (fun K hK=>?_)
   go_simp
   (with_reducible refine HO3.out.mono ?_)
   rintro e w2 ⟨rfl,hb2⟩
   refine hK.out _ _ ?_ (fun hHeld=>?_)
   ·(try dsimp only)
    (exact h0d.go hb2)
   clear hK K
   refine zP 6 rfl ?_
   refine zP 7 rfl ?_
   refine zP 8 rfl ?_
   refine zP 9 rfl ?_
   refine zT 10 rfl ?_
   refine zP 11 rfl ?_
   refine zP 12 rfl ?_
   refine zP 13 rfl ?_
   refine zT 14 rfl ?_
   refine zC 15 rfl (fun K hK=>?_)
   go_simp
   (with_reducible refine (HCL.out _ (h0d.go hb2)).mono ?_)
   rintro e w3 ⟨rfl,hb3⟩
   refine hK.out _ _ ?_ (fun hHeld=>?_)
   ·(try dsimp only)
    (exact (h0d.go hb2).go hb3)
   clear hK K
   refine zC 16 rfl (fun K hK=>?_)
   go_simp
   refine hK.out _ _ ?_ (fun hHeld=>?_)
   ·(try dsimp only)
    (exact (h0d.go hb2).go hb3)
   clear hK K
   refine zT 17 rfl ?_
   try simp only [Act.put,List.setIfInBounds_toArray,List.set_cons_zero,List.set_cons_succ]
   refine wpAnyZ_done (by kernel_rfl) ?_ _
   refine NoPanic.normal ?_
   go_wp2
   go_ret
   exact ⟨by rw [HS.out];rfl,HEND.out _ ((h0d.go hb2).go hb3)⟩
 ·have HCL:=HCL.out
  simp only [hlc,if_false] at HCL
  have HCL:=hid HCL
  go_enter Tryz.func164,Tryz.ntmps164
  go_upto_if 44 with fail
  refine wp_cond_true rfl (wp_exit ?_)
  repeat (first | with_reducible refine then_exit ?_ | with_reducible refine in_here ?_ | with_reducible refine in_other (by decide) ?_)
  with_reducible refine then_normal ?_
  go_upto_region 41 with fail
  rw [← HW.out]
  clear m0 m1 m4
  cases q1 with
  | false =>
   refine wp_region_noPanic ?_
   refine wp_region_Z (S:=(fun w'=>Aft W w')) (Z:=[]) (by kernel_rfl) ?_ (fun hHeld=>?_)
   ·(try dsimp only)
    (exact h0d)
   refine zP 0 rfl ?_
   refine zP 1 rfl ?_
   refine zP 2 rfl ?_
   refine zT 3 rfl ?_
   refine zC 4 rfl (fun K hK=>?_)
   go_simp
   refine hK.out _ _ ?_ (fun hHeld=>?_)
   ·(try dsimp only)
    (exact h0d.alloc _)
   clear hK K
   refine zC 5 rfl (fun K hK=>?_)
   go_simp
   (with_reducible refine HO3.out.mono ?_)
   rintro e w2 ⟨rfl,hb2⟩
   refine hK.out _ _ ?_ (fun hHeld=>?_)
   ·(try dsimp only)
    (exact h0d.go hb2)
   clear hK K
   refine zP 6 rfl ?_
   refine zU 7 rfl ?_
   refine zU 8 rfl ?_
   refine zU 9 rfl ?_
   refine zU 10 rfl ?_
   refine zU 11 rfl ?_
   refine zU 12 rfl ?_
   refine zU 13 rfl ?_
   refine zU 14 rfl ?_
   refine zU 15 rfl ?_
   refine zC 16 rfl (fun K hK=>?_)
   go_simp
   refine hK.out _ _ ?_ (fun hHeld=>?_)
   ·(try dsimp only)
    (exact h0d.go hb2)
   clear hK K
   refine zT 17 rfl ?_
   try simp only [Act.put,List.setIfInBounds_toArray,List.set_cons_zero,List.set_cons_succ]
   refine wpAnyZ_done (by kernel_rfl) ?_ _
   refine NoPanic.normal ?_
   go_wp2
   go_ret
   exact ⟨by rw [HS.out];rfl,HEND.out _ (h0d.go hb2)⟩
  | true =>
   have HCL:=hid (HCL.out rfl)
   refine wp_region_noPanic ?_
   refine wp_region_Z (S:=(fun w'=>Aft W w')) (Z:=[]) (by kernel_rfl) ?_ (fun hHeld=>?_)
   ·(try dsimp only)
    (exact h0d)
   refine zP 0 rfl ?_
   refine zP 1 rfl ?_
   refine zP 2 rfl ?_
   refine zT 3 rfl ?_
   refine zC 4 rfl (fun K hK=>?_)
   go_simp
   refine hK.out _ _ ?_ (fun hHeld=>?_)
   ·(try dsimp only)
    (exact h0d.alloc _)
   clear hK K
   refine zC 5 rfl (fun K hK=>?_)
   go_simp
   (with_reducible refine HO3.out.mono ?_)
   rintro e w2 ⟨rfl,hb2⟩
   refine hK.out _ _ ?_ (fun hHeld=>?_)
   ·(try dsimp only)
    (exact h0d.go hb2)
   clear hK K
   refine zP 6 rfl ?_
   refine zP 7 rfl ?_
   refine zP 8 rfl ?_
   refine zP 9 rfl ?_
   refine zT 10 rfl ?_
   refine zP 11 rfl ?_
   refine zP 12 rfl ?_
   refine zP 13 rfl ?_
   refine zT 14 rfl ?_
   refine zC 15 rfl (fun K hK=>?_)
   go_simp
   (with_reducible refine (HCL.out _ (h0d.go hb2)).mono ?_)
   rintro e w3 ⟨rfl,hb3⟩
   refine hK.out _ _ ?_ (fun hHeld=>?_)
   ·(try dsimp only)
    (exact (h0d.go hb2).go hb3)
   clear hK K
   refine zC 16 rfl (fun K hK=>?_)
   go_simp
   refine hK.out _ _ ?_ (fun hHeld=>?_)
   ·(try dsimp only)
    (exact (h0d.go hb2).go hb3)
   clear hK K
   refine zT 17 rfl ?_
   try simp only [Act.put,List.setIfInBounds_toArray,List.set_cons_zero,List.set_cons_succ]
   refine wpAnyZ_done (by kernel_rfl) ?_ _
   refine NoPanic.normal ?_
   go_wp2
   go_ret
   exact ⟨by rw [HS.out];rfl,HEND.out _ ((h0d.go hb2).go hb3)⟩
end Go.Proofs.YtpejpnffcepdlaaGreatDoor.SzG
