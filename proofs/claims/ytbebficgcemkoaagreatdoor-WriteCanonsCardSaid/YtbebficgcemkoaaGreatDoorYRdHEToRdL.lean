/- Walk over fescueref07.has: behind its registers. fescueref07.has, whole. Walk over fescueref07.ins. Walk over fescueref07.block. -/
import Derived.Test.YtbebficgcemkoaaGreatDoorYRgZToRgY
import Derived.Test.YtbebficgcemkoaaGreatDoorYRdHrToRdHB
import Derived.Test.YtbebficgcemkoaaGreatDoorYRdEToRdHD
import Derived.Test.YtbebficgcemkoaaGreatDoorYRcRToRcX
set_option maxRecDepth 100000
set_option maxHeartbeats 16000000
namespace Go.Proofs.YtbebficgcemkoaaGreatDoor.RdHE
open Go.RowKit Go.Lib TyM TyP ShM ShP ShB IntO SetP LxM LxJ LxY RwO RdM RdA RdO RdB RdP RdQ RdN Fresh Aft RgZ RdHs

theorem q69x1 {P:Prop} (h:P:=by
 intro W3 hk3 HB3 HOA HOF
 dsimp only at hk3
 have x0:=cells_of hk3 0 _ rfl;have x1:=cells_of hk3 1 _ rfl;have x2:=cells_of hk3 2 _ rfl;have x3:=cells_of hk3 3 _ rfl;have x4:=cells_of hk3 4 _ rfl;have x5:=cells_of hk3 5 _ rfl;have x6:=cells_of hk3 6 _ rfl
 clear hk3 HB7
 go_wp2
 (try simp only [Exit.inBlock,Exit.then])
 refine bodyPost_ret (by simp [results,Tryz.results176,go_sem,x0,x1,x2,x3,x4,x5,x6];try rfl) rfl ?_
 exact ⟨⟨op,typ,q0,0,nv,xs5,[]⟩,_,_,by rw [HN.out];rfl,(fun z h=>by rw [HN.out] at h;exact Option.some.inj h),⟨HOA.out,HOF.out⟩,HB3.out⟩):P:=h
theorem q69x2 {P:Prop} (h:P:=by
 intro W3 hk3 HB3 HOA HOF
 dsimp only at hk3
 have x0:=cells_of hk3 0 _ rfl;have x1:=cells_of hk3 1 _ rfl;have x2:=cells_of hk3 2 _ rfl;have x3:=cells_of hk3 3 _ rfl;have x4:=cells_of hk3 4 _ rfl;have x5:=cells_of hk3 5 _ rfl;have x6:=cells_of hk3 6 _ rfl
 clear hk3 HB7
 go_wp2
 (try simp only [Exit.inBlock,Exit.then])
 refine bodyPost_ret (by simp [results,Tryz.results176,go_sem,x0,x1,x2,x3,x4,x5,x6];try rfl) rfl ?_
 exact ⟨⟨op,typ,q0,0,nv,xs5,[]⟩,_,_,by rw [HN.out];rfl,(fun z h=>by rw [HN.out] at h;cases h),⟨HOA.out,HOF.out⟩,HB3.out⟩):P:=h
theorem has_rest1t (op typ:Int) (l:List ByteArray) (v:Value) (w:World) (h0:0≤op) (h255:op≤255) (hl:LxP.StrsAt w v l) (hn:l.length≤100000) (hs:∀ x∈l,x.size≤9223372036854775807) (ho:(op == 22)=false) (hrg:regsN op=1) (hge:1≤l.length) (hnb:hasNB op=true) :
  Calls Tryz.prog 176 #[ixV (ix0 op typ) (.slice none 0 0) (.slice none 0 0),v] w (InsR (hasP op typ l) w):=by
 rw [show ixV (ix0 op typ) (.slice none 0 0) (.slice none 0 0)=.agg #[.int .u8 op,.int .i64 typ,.int .i64 0,.int .i64 0,.int .i64 0,.slice none 0 0,.slice none 0 0] from rfl]
 obtain ⟨V,hV⟩:∃ V,V=(w.alloc (.cells #[.int .u8 op,.int .i64 typ,.int .i64 0,.int .i64 0,.int .i64 0,.slice none 0 0,.slice none 0 0] 57)).alloc (.cells #[.int .u8 0,.int .i64 0,.int .i64 0,.int .i64 0,.int .i64 0,.slice none 0 0,.slice none 0 0] 57):=⟨_,rfl⟩
 have hbx:=start_box w op typ
 rw [← hV] at hbx
 have HV:=hid hV
 have HB0:=hid hbx
 have HLV:=hid (hl.below hbx.below)
 have HS:=hid hs
 have HLN:=hid hn
 have f0:V.cell? ⟨w.heap.size,0,none⟩=some (.int .u8 op):=cells_of hbx.box 0 _ rfl
 clear hV hs hbx hn

 have HUS:=hid (ShV.usesR_calls (ix0 op 0) (.slice none 0 0) (.slice none 0 0) V h0 h255 (ints_none V) (by simp [ix0]) ⟨_,_,_,rfl⟩)
 have HRG:=hid (regs_len op)
 have HHN:=hid (fun wx=>hasN_calls op wx)
 have HHR:=hid (fun wx=>hasArgs_calls op h0 h255 wx)
 have hop22:¬ op=22:=by simpa using ho
 obtain ⟨ao,cap,rfl,_⟩:=hl.slice
 obtain ⟨vt,hvt,hrt'⟩:=strs_take hl (k:=1) hge
 have hrt:∀ wx:World,(Instr.slice 74 (.slice ao l.length cap) none (some (.int .i64 1)) none).run Tryz.prog wx=.ok vt wx:=hrt'
 obtain ⟨vd,hvd,hrd'⟩:=strs_drop hl (k:=1) hge
 have hrd:∀ wx:World,(Instr.slice 74 (.slice ao l.length cap) (some (.int .i64 1)) none none).run Tryz.prog wx=.ok vd wx:=hrd'
 have HVD:=hid hvd
 have HM:=hid (fun wx (hx:Below w.heap.size w wx)=>marks_calls 114 (l.take 1) vt wx (hvt.below hx) (by have:=HLN.out;rw [List.length_take];omega) (fun x hx=>HS.out x (List.mem_of_mem_take hx)))
 rw [show (((114:UInt8).toNat:Nat):Int)=114 from rfl] at HM
 obtain ⟨slt,ct,rfl,_⟩:=hvt.slice
 obtain ⟨sld,cd,rfl,_⟩:=hvd.slice
 have hli:¬ (l.length:Int) < 1:=by omega
 have HTL:Hid ((l.take 1).length=1):=by show _=_;rw [List.length_take];omega
 have HDN:Hid ((l.drop 1).length≤100000):=by show _≤_;have:=HLN.out;rw [List.length_drop];omega
 have HSD:Hid (∀ x∈l.drop 1,x.size≤9223372036854775807):=fun x hx=>HS.out x (List.mem_of_mem_drop hx)
 clear hrt' hrd' hvt hvd
 clear hl h0 h255
 unfold OwnI at HUS
 go_enter Tryz.func176,Tryz.ntmps176
 go_wp2_with fail
 rw [← HV.out]
 clear HV
 refine HUS.out.mono ?_
 rintro e w1 ⟨uv,un,rfl,huo,hb1⟩
 have hun:un=1:=by have:=huo.1;have h2:=HRG.out;rw [intVals_length] at this;omega
 subst hun
 obtain ⟨ua,uc,rfl⟩:=own_form huo
 have HB1:=hid (HB0.out.on hb1)
 have HL1:=hid (HLV.out.below hb1)
 have HQ:Hid (hasP op typ l=if l.length < 1 then none else match marksO 114 (l.take 1) with
   | none=>none
   | some r=>restP op typ (if 0 < 1 then r.getD 0 0 else 0) (if 1 < 1 then r.getD 1 0 else 0) (l.drop 1)):=by
  show _=_
  unfold hasP
  rw [if_neg hop22,hrg]
  rfl
 clear huo hb1 HUS HB0 HLV HRG f0 hop22 hrg
 have hq:=HQ.out
 rw [if_neg (by omega)] at hq
 clear HQ
 have HQ:=hid hq
 clear hq hge
 generalize l.drop 1=m at *
 generalize l.take 1=mt at *
 generalize l.length=ln at *
 go_wp2_with fail
 refine (HM.out w1 HB1.out.below).mono ?_
 rintro e w2 ⟨u,xs,rfl,hown,hsome,hnone,hb2⟩
 obtain ⟨ua,uc,rfl⟩:=own_slice hown
 have HB2:=hid (HB1.out.on hb2)
 have HSM:=hid hsome
 have HOWN:=hid hown
 clear hsome hown hb2 HM HB1 HL1 hrt HLN HS
 cases hm:marksO 114 mt with
 | none =>
  have hq:=HQ.out
  rw [hm] at hq
  have HN:Hid (hasP op typ l=none):=hq
  have hxs:=hnone hm
  subst hxs
  clear hq HQ hm hnone HSM HOWN HTL
  have hbx:=HB2.out
  have hbo:=hbx.box
  have hre:=hbx.res
  have m0:=cells_of hbo 0 _ rfl;have m1:=cells_of hbo 1 _ rfl;have m2:=cells_of hbo 2 _ rfl;have m3:=cells_of hbo 3 _ rfl;have m4:=cells_of hbo 4 _ rfl;have m5:=cells_of hbo 5 _ rfl;have m6:=cells_of hbo 6 _ rfl
  have y0:=cells_of hre 0 _ rfl;have y1:=cells_of hre 1 _ rfl;have y2:=cells_of hre 2 _ rfl;have y3:=cells_of hre 3 _ rfl;have y4:=cells_of hre 4 _ rfl;have y5:=cells_of hre 5 _ rfl;have y6:=cells_of hre 6 _ rfl
  have hz:=(ShTB.cells_heap hre).2
  have z0:=hz 0;have z1:=hz 1;have z2:=hz 2;have z3:=hz 3;have z4:=hz 4;have z5:=hz 5;have z6:=hz 6
  obtain ⟨W3,hW3,hk3,hb3,hoa,hof⟩:=res_facts hbx
  have HW3:=hid hW3
  have HB3:=hid hb3
  have HOA:=hid hoa
  have HOF:=hid hof
  have x0:=cells_of hk3 0 _ rfl;have x1:=cells_of hk3 1 _ rfl;have x2:=cells_of hk3 2 _ rfl;have x3:=cells_of hk3 3 _ rfl;have x4:=cells_of hk3 4 _ rfl;have x5:=cells_of hk3 5 _ rfl;have x6:=cells_of hk3 6 _ rfl
  clear hW3 hk3 hb3 hoa hof hbo hre hbx hz
  go_wp2
  (try simp only [Exit.inBlock,Exit.then])
  rw [← HW3.out]
  refine bodyPost_ret (by simp [results,Tryz.results176,go_sem,x0,x1,x2,x3,x4,x5,x6];try rfl) rfl ?_
  exact ⟨⟨op,typ,0,0,0,[],[]⟩,_,_,by rw [HN.out];rfl,(fun z h=>by rw [HN.out] at h;cases h),⟨HOA.out,HOF.out⟩,HB3.out⟩
 | some r =>
  have hq:=HQ.out
  rw [hm] at hq
  have hxs:=HSM.out r hm
  subst hxs
  have hln:=(marks_len hm).trans HTL.out
  obtain ⟨q0,rfl⟩:=one_of hln
  have HR:Hid (hasP op typ l=restP op typ q0 0 m):=hq
  clear hq HQ hm hnone HSM hln HTL
  obtain ⟨g,cap2,hg,_,_,_,hc⟩:=TyW.row_cells HOWN.out (by rw [intVals_length];exact Nat.succ_pos _)
  cases hg
  have k0:=hc 0 (.int .i64 q0) rfl
  have z2:=(ShTB.cells_heap HB2.out.box).2 2
  have m2:=cells_of HB2.out.box 2 _ rfl
  clear hc
  go_upto_region 13 with fail
  obtain ⟨w4,hW4⟩:∃ wx,wx=w2.setCell ⟨w.heap.size,2,none⟩ (.int .i64 q0):=⟨_,rfl⟩
  rw [← hW4]
  have HB4:Hid (BoxP w (⟨op,typ,q0,0,0,[],[]⟩:Ix) (.slice none 0 0) (.slice none 0 0) [] [] w4):=by show BoxP _ _ _ _ _ _ _;rw [hW4];exact RdHs.BoxP.setA HB2.out q0
  have HBX:=HB4
  obtain ⟨wr,hwr⟩:∃ wr,wr=w4:=⟨_,rfl⟩
  subst hwr
  clear hW4 HB2 HB4 HOWN z2 m2 k0
  have f0:wr.cell? ⟨w.heap.size,0,none⟩=some (.int .u8 op):=cells_of HBX.out.box 0 _ rfl
  go_wp2_with fail
  refine (HHN.out wr).mono ?_
  rintro e w3 ⟨rfl,rfl⟩
  rw [hnb]
  clear f0 HHN hrd
  by_cases hz:m.length=0
  ·have HN:Hid (hasP op typ l=none):=by
    show _=_
    rw [HR.out]
    unfold restP
    rw [if_pos hnb,if_pos hz]
   have hz0:((m.length:Int) == 0)=true:=by rw [hz];rfl
   clear HR hz hnb
   have hbx:=HBX.out
   have hbo:=hbx.box
   have hre:=hbx.res
   have m0:=cells_of hbo 0 _ rfl;have m1:=cells_of hbo 1 _ rfl;have m2:=cells_of hbo 2 _ rfl;have m3:=cells_of hbo 3 _ rfl;have m4:=cells_of hbo 4 _ rfl;have m5:=cells_of hbo 5 _ rfl;have m6:=cells_of hbo 6 _ rfl
   have y0:=cells_of hre 0 _ rfl;have y1:=cells_of hre 1 _ rfl;have y2:=cells_of hre 2 _ rfl;have y3:=cells_of hre 3 _ rfl;have y4:=cells_of hre 4 _ rfl;have y5:=cells_of hre 5 _ rfl;have y6:=cells_of hre 6 _ rfl
   have hz:=(ShTB.cells_heap hre).2
   have z0:=hz 0;have z1:=hz 1;have z2:=hz 2;have z3:=hz 3;have z4:=hz 4;have z5:=hz 5;have z6:=hz 6
   obtain ⟨W3,hW3,hk3,hb3,hoa,hof⟩:=res_facts hbx
   have HW3:=hid hW3
   have HB3:=hid hb3
   have HOA:=hid hoa
   have HOF:=hid hof
   have x0:=cells_of hk3 0 _ rfl;have x1:=cells_of hk3 1 _ rfl;have x2:=cells_of hk3 2 _ rfl;have x3:=cells_of hk3 3 _ rfl;have x4:=cells_of hk3 4 _ rfl;have x5:=cells_of hk3 5 _ rfl;have x6:=cells_of hk3 6 _ rfl
   clear hW3 hk3 hb3 hoa hof hbo hre hbx hz
   go_wp2
   (try simp only [Exit.inBlock,Exit.then])
   rw [← HW3.out]
   refine bodyPost_ret (by simp [results,Tryz.results176,go_sem,x0,x1,x2,x3,x4,x5,x6];try rfl) rfl ?_
   exact ⟨⟨op,typ,q0,0,0,[],[]⟩,_,_,by rw [HN.out];rfl,(fun z h=>by rw [HN.out] at h;cases h),⟨HOA.out,HOF.out⟩,HB3.out⟩
  have HP:Hid (hasP op typ l=match marksO 114 (m.drop 1) with
    | none=>none
    | some q=>if (numP op (m.getD 0 ⟨#[]⟩)).2=true∧(m.length=1∨argsB op=true) then some ⟨op,typ,q0,0,(numP op (m.getD 0 ⟨#[]⟩)).1,q,[]⟩ else none):=by
   show _=_
   rw [HR.out]
   unfold restP
   rw [if_pos hnb,if_neg hz]
   rfl
  have hz0:((m.length:Int) == 0)=false:=by rw [beq_eq_false_iff_ne];omega
  have hm1:1≤m.length:=by omega
  have hlp:(0:Int) < m.length:=by omega
  have hlpn:0 < m.length:=hm1
  obtain ⟨bw,ow,rfl,cw⟩:=word_at HVD.out 0 hm1
  rw [Nat.add_zero] at cw
  have dw:=later ((HBX.out.below.cell (p:=⟨bw,ow,none⟩) (World.block_lt_of_cell? w _ cw)).trans cw)
  have d0:∀ w',Aft wr w'→w'.cell? ⟨w.heap.size,0,none⟩=some (.int .u8 op):=later (cells_of HBX.out.box 0 _ rfl)
  obtain ⟨v1,hv1,hr1'⟩:=strs_drop HVD.out (k:=1) hm1
  have hr1:∀ wx:World,(Instr.slice 74 (.slice (some ⟨bw,ow,none⟩) m.length cd) (some (.int .i64 1)) none none).run Tryz.prog wx=.ok v1 wx:=hr1'
  have HMD:=hid (fun wx (hx:Below w.heap.size w wx)=>marks_calls 114 (m.drop 1) v1 wx (hv1.below hx) (by have:=HDN.out;rw [List.length_drop];omega) (fun x hx=>HSD.out x (List.mem_of_mem_drop hx)))
  rw [show (((114:UInt8).toNat:Nat):Int)=114 from rfl] at HMD
  obtain ⟨sl1,c1,rfl,_⟩:=hv1.slice
  have HNI:=hid (fun wx=>number_calls op (m.getD 0 ⟨#[]⟩) (HSD.out _ (by rw [List.getD_eq_getElem?_getD,List.getElem?_eq_getElem hm1];exact List.getElem_mem _)) wx)
  have HD1:Hid ((m.drop 1).length=m.length - 1):=by show _=_;simp
  generalize m.drop 1=m1 at *
  generalize m1.length=n1 at *
  unfold NumIR at HNI
  generalize m.getD 0 ⟨#[]⟩=sw at *
  generalize numP op sw=pn at *
  obtain ⟨nv,okn⟩:=pn
  simp only at HNI HP
  clear hr1' hv1 HR hz cw hnb
  go_upto_region 17 with fail
  have HHW:=hid (Aft.refl wr).drew
  refine wp_region_noPanic ?_
  refine wp_region_Z (S:=(fun w'=>Aft wr w')) (Z:=[10]) (by kernel_rfl) ?_ (fun hHeld=>?_)
  ·(try dsimp only)
   (exact HHW.out)
  refine zP 0 rfl ?_
  refine zT 1 rfl ?_
  refine zP 2 rfl ?_
  refine zP 3 rfl ?_
  refine zT 4 rfl ?_
  refine zC 5 rfl (fun K hK=>?_)
  go_simp
  refine (HNI.out _).mono ?_
  rintro e w5 ⟨rfl,hb5⟩
  refine hK.out _ _ ?_ (fun hHeld=>?_)
  ·(try dsimp only)
   (exact HHW.out.go hb5)
  clear hK K
  refine zP 6 rfl ?_
  refine zP 7 rfl ?_
  refine zP 8 rfl ?_
  refine zP 9 rfl ?_
  refine zL 10 rfl (fun K hK=>?_)
  have HB5:=hid ((HBX.out.on (HHW.out.below)).on hb5)
  have z4:=(ShTB.cells_heap HB5.out.box).2 4
  have m4:=cells_of HB5.out.box 4 _ rfl
  go_simp
  refine hK.out _ _ ?_
  clear hK K
  refine zL 11 rfl (fun K hK=>?_)
  go_simp
  refine hK.out _ _ ?_
  clear hK K
  try simp only [Act.put,List.setIfInBounds_toArray,List.set_cons_zero,List.set_cons_succ]
  refine wpAnyZ_done (by kernel_rfl) ?_ _
  refine NoPanic.normal ?_
  obtain ⟨W8,hW8⟩:∃ wx,wx=w5.setCell ⟨w.heap.size,4,none⟩ (.int .i64 nv):=⟨_,rfl⟩
  rw [← hW8]
  have HBY:Hid (BoxP w (⟨op,typ,q0,0,nv,[],[]⟩:Ix) (.slice none 0 0) (.slice none 0 0) [] [] W8):=by show BoxP _ _ _ _ _ _ _;rw [hW8];exact RdHs.BoxP.setN HB5.out nv
  clear hW8 hb5 HB5 HBX z4 m4 HHW HNI dw d0 hlp hlpn hz0
  have HBX:=HBY
  obtain ⟨wr,hwr⟩:∃ wx,wx=W8:=⟨_,rfl⟩
  subst hwr
  go_wp2_with fail
  refine (HMD.out wr HBX.out.below).mono ?_
  rintro e w5 ⟨u5,xs5,rfl,hown5,hsome5,hnone5,hb5⟩
  have HBX5:=hid (HBX.out.on hb5)
  obtain ⟨ua5,uc5,rfl⟩:=own_slice hown5
  have HOW5:=hid (owns_base hown5 (by have:=HBX.out.size;omega:w.heap.size+2≤wr.heap.size))
  have z5:=(ShTB.cells_heap HBX5.out.box).2 5
  have m5:=cells_of HBX5.out.box 5 _ rfl
  have HSM:=hid hsome5
  clear hown5 hsome5 hb5 HMD HBX HVD
  go_upto_region 21 with fail
  obtain ⟨W7,hW7⟩:∃ wx,wx=w5.setCell ⟨w.heap.size,5,none⟩ (.slice ua5 xs5.length uc5):=⟨_,rfl⟩
  rw [← hW7]
  have HB7:Hid (BoxP w (⟨op,typ,q0,0,nv,[],[]⟩:Ix) (.slice ua5 xs5.length uc5) (.slice none 0 0) xs5 [] W7):=by
   show BoxP _ _ _ _ _ _ _
   rw [hW7]
   exact RdHs.BoxP.setL HBX5.out HOW5.out (fun g _ h=>by cases h)
  clear hW7 HBX5 HOW5 z5 m5
  generalize xs5.length=n5 at *
  cases okn with
  | false =>
   have HN:Hid (hasP op typ l=none):=by
    show _=_
    rw [HP.out]
    cases marksO 114 m1 with
    | none=>rfl
    | some q=>exact if_neg (fun h=>by cases h.1)
   clear hnone5 HSM HP
   refine RdHr.rD HB7 ?_
   exact q69x2
  | true =>
   cases hm5:marksO 114 m1 with
   | none =>
    have hq:=HP.out
    rw [hm5] at hq
    have HN:Hid (hasP op typ l=none):=hq
    have hxs:=hnone5 hm5
    subst hxs
    clear hq HP hm5 hnone5 HSM
    refine RdHr.rA HB7 ?_
    intro W3 hk3 HB3 HOA HOF
    dsimp only at hk3
    have x0:=cells_of hk3 0 _ rfl;have x1:=cells_of hk3 1 _ rfl;have x2:=cells_of hk3 2 _ rfl;have x3:=cells_of hk3 3 _ rfl;have x4:=cells_of hk3 4 _ rfl;have x5:=cells_of hk3 5 _ rfl;have x6:=cells_of hk3 6 _ rfl
    clear hk3 HB7
    go_wp2
    (try simp only [Exit.inBlock,Exit.then])
    refine bodyPost_ret (by simp [results,Tryz.results176,go_sem,x0,x1,x2,x3,x4,x5,x6];try rfl) rfl ?_
    exact ⟨⟨op,typ,q0,0,nv,[],[]⟩,_,_,by rw [HN.out];rfl,(fun z h=>by rw [HN.out] at h;cases h),⟨HOA.out,HOF.out⟩,HB3.out⟩
   | some q =>
    have hq:=HP.out
    rw [hm5] at hq
    have hxs:=HSM.out q hm5
    subst hxs
    clear HP hm5 hnone5 HSM
    by_cases hlz:m.length=1
    ·have HN:Hid (hasP op typ l=some ⟨op,typ,q0,0,nv,xs5,[]⟩):=hq.trans (if_pos ⟨rfl,.inl hlz⟩)
     have hz1:((n1:Int) == 0)=true:=by rw [HD1.out,hlz];rfl
     clear hq hlz
     refine RdHr.rB HB7 hz1 ?_
     exact q69x1
    ·have hz1:((n1:Int) == 0)=false:=by rw [beq_eq_false_iff_ne];have:=HD1.out;omega
     cases hga:argsB op with
     | false =>
      have HN:Hid (hasP op typ l=none):=hq.trans (if_neg (by rw [hga];simp [hlz]))
      rw [hga] at HHR
      clear hq hlz hga
      refine RdHr.rC HB7 hz1 HHR ?_
      exact q69x2
     | true =>
      have HN:Hid (hasP op typ l=some ⟨op,typ,q0,0,nv,xs5,[]⟩):=hq.trans (if_pos (by rw [hga];simp))
      rw [hga] at HHR
      clear hq hlz hga
      refine RdHr.rC HB7 hz1 HHR ?_
      exact q69x1
end Go.Proofs.YtbebficgcemkoaaGreatDoor.RdHE
namespace Go.Proofs.YtbebficgcemkoaaGreatDoor.RdHas
open Go.RowKit Go.Lib TyM TyP ShM ShP ShB IntO SetP LxM LxJ LxY RwO RdM RdA RdO RdB RdP RdQ RdN Fresh Aft RgZ RdHs

theorem regs_is (op:Int):regsN op=0∨regsN op=1∨regsN op=2:=by unfold regsN;split<;>(try split)<;>simp
theorem two_nb:∀ k:Fin 256,regsN (k:Int)=2→hasNB (k:Int)=false:=by decide +kernel
theorem two_no {op:Int} (h0:0≤op) (h255:op≤255) (h:regsN op=2):hasNB op=false:=by
 have:=two_nb ⟨op.toNat,by omega⟩
 simp only [Int.toNat_of_nonneg h0] at this
 exact this h
theorem op_small (s:List UInt8):opOf s≤255:=Nat.le_trans (op_le s) (by omega)
theorem has_calls (op typ:Int) (l:List ByteArray) (v:Value) (w:World) (h0:0≤op) (h255:op≤255) (hl:LxP.StrsAt w v l) (hn:l.length≤100000) (hs:∀ x∈l,x.size≤9223372036854775807) :
  Calls Tryz.prog 176 #[ixV (ix0 op typ) (.slice none 0 0) (.slice none 0 0),v] w (InsR (hasP op typ l) w):=by
 cases ho:(op == 22) with
 | true=>exact has_phi op typ l v w hl hn hs ho
 | false =>
  rcases regs_is op with hr | hr | hr
  ·cases hb:hasNB op with
   | false=>exact RdHA.has_rest0f op typ l v w h0 h255 hl hn hs ho hr (Nat.zero_le _) hb
   | true=>exact RdHD.has_rest0t op typ l v w h0 h255 hl hn hs ho hr (Nat.zero_le _) hb
  ·by_cases hlt:l.length < 1
   ·exact has_short1 op typ l v w h0 h255 hl hn hs ho hr hlt
   ·cases hb:hasNB op with
    | false=>exact RdHB.has_rest1f op typ l v w h0 h255 hl hn hs ho hr (by omega) hb
    | true=>exact RdHE.has_rest1t op typ l v w h0 h255 hl hn hs ho hr (by omega) hb
  ·by_cases hlt:l.length < 2
   ·exact has_short2 op typ l v w h0 h255 hl hn hs ho hr hlt
   ·exact RdHC.has_rest2f op typ l v w h0 h255 hl hn hs ho hr (by omega) (two_no h0 h255 hr)
end Go.Proofs.YtbebficgcemkoaaGreatDoor.RdHas
namespace Go.Proofs.YtbebficgcemkoaaGreatDoor.RdI
open Go.RowKit Go.Lib TyM TyP ShM ShP ShB IntO SetP LxM LxJ LxY RwO RdM RdA RdO RdB RdP RdQ RdN Fresh Aft RgZ RdHs RdHas

theorem q73x2 {P:Prop} (h:P:=by
 have x0:=cells_of hk3 0 _ rfl;have x1:=cells_of hk3 1 _ rfl;have x2:=cells_of hk3 2 _ rfl;have x3:=cells_of hk3 3 _ rfl;have x4:=cells_of hk3 4 _ rfl;have x5:=cells_of hk3 5 _ rfl;have x6:=cells_of hk3 6 _ rfl
 clear hn hz hW3 hk3 hb3
 go_wp2
 (try simp only [Exit.inBlock,Exit.then])
 rw [← HW3.out]
 refine bodyPost_ret (by simp [results,Tryz.results165,go_sem,x0,x1,x2,x3,x4,x5,x6];try rfl) rfl ?_
 exact ⟨⟨0,0,0,0,0,[],[]⟩,.slice none 0 0,.slice none 0 0,by rw [HD.out];rfl,(fun z h=>by rw [HD.out] at h;cases h),⟨World.ownsRow_nil _ _ _ _,World.ownsRow_nil _ _ _ _⟩,HB3.out⟩):P:=h
theorem ins_reg (l:List ByteArray) (reg:Int) (v:Value) (w:World) (hl:LxP.StrsAt w v l) (h1:1≤l.length) (hn:l.length≤100000) (hs:∀ x∈l,x.size≤9223372036854775807) (h3:3 < l.length) (he:un (l.getD 2 ⟨#[]⟩)=[61]) :
  Calls Tryz.prog 165 #[v,.int .i64 reg] w (InsR (insP l reg) w):=by
 obtain ⟨W,hW⟩:∃ W,W=w.alloc (.cells #[.int .u8 0,.int .i64 0,.int .i64 0,.int .i64 0,.int .i64 0,.slice none 0 0,.slice none 0 0] 57):=⟨_,rfl⟩
 have HBW:Hid (Below w.heap.size w W):=by show Below _ _ _;rw [hW];exact alloc_below _ _
 have HN0:Hid (W.heap[w.heap.size]?=some (.cells #[.int .u8 0,.int .i64 0,.int .i64 0,.int .i64 0,.int .i64 0,.slice none 0 0,.slice none 0 0] 57 (0,0))):=by show _=_;rw [hW];exact alloc_new _ _
 have HW:=hid hW
 have HL:=hid (hl.below HBW.out)
 have HS:=hid hs
 have HLN:=hid hn
 obtain ⟨ao,cap,rfl,_⟩:=hl.slice
 obtain ⟨b,off,rfl,c0⟩:=word_at HL.out 0 h1
 rw [Nat.add_zero] at c0
 have d0:=later c0
 have h0:=Aft.refl W
 have hi0:(0:Int) < l.length:=by omega
 have hk0:0 < l.length:=h1
 clear hl hW hs hn c0
 obtain ⟨b1,o1,hbb,c1⟩:=word_at HL.out 1 (by omega)
 cases hbb
 obtain ⟨b2,o2,hbb,c2⟩:=word_at HL.out 2 (by omega)
 cases hbb
 obtain ⟨b3,o3,hbb,c3⟩:=word_at HL.out 3 (by omega)
 cases hbb
 have d1:=later c1
 have d2:=later c2
 have d3:=later c3
 have hi1:(1:Int) < l.length:=by omega
 have hi2:(2:Int) < l.length:=by omega
 have hi3:(3:Int) < l.length:=by omega
 have hk1:1 < l.length:=by omega
 have hk2:2 < l.length:=by omega
 have e2:=str_eq (l.getD 2 ⟨#[]⟩) [61]
 rw [decide_eq_true he] at e2
 have HM0:=hid (fun wx=>markR_calls (l.getD 0 ⟨#[]⟩) (HS.out _ (by rw [List.getD_eq_getElem?_getD,List.getElem?_eq_getElem (by omega:0 < l.length)];exact List.getElem_mem _)) 114 wx)
 have HM1:=hid (fun wx=>markR_calls (l.getD 1 ⟨#[]⟩) (HS.out _ (by rw [List.getD_eq_getElem?_getD,List.getElem?_eq_getElem (by omega:1 < l.length)];exact List.getElem_mem _)) 116 wx)
 have HOP:=hid (fun wx=>operation_calls (l.getD 3 ⟨#[]⟩) wx)
 rw [show (((114:UInt8).toNat:Nat):Int)=114 from rfl] at HM0
 rw [show (((116:UInt8).toNat:Nat):Int)=116 from rfl] at HM1
 obtain ⟨v4,hv4,hr4'⟩:=strs_drop HL.out (k:=4) (by omega)
 have hr4:∀ wx:World,(Instr.slice 74 (.slice (some ⟨b,off,none⟩) l.length cap) (some (.int .i64 4)) none none).run Tryz.prog wx=.ok v4 wx:=hr4'
 have hop:opOf (un (l.getD 3 ⟨#[]⟩))≤255:=op_small _
 have HHS:=hid (fun typ wx (hx:Aft W wx)=>has_calls ((opOf (un (l.getD 3 ⟨#[]⟩)):Nat):Int) typ (l.drop 4) v4 wx (by omega) (by omega) (hv4.below hx.below) (by have:=HLN.out;rw [List.length_drop];omega) (fun x hx=>HS.out x (List.mem_of_mem_drop hx)))
 have HAN:=hid (fun wx=>answersR_calls ((opOf (un (l.getD 3 ⟨#[]⟩)):Nat):Int) (by omega) (by omega) wx)
 obtain ⟨sl4,ca4,rfl,_⟩:=hv4.slice
 have HQ:Hid (insP l reg=if (mkN (l.getD 0 ⟨#[]⟩) 114).2=0∧(mkN (l.getD 1 ⟨#[]⟩) 116).2=0∧(mkN (l.getD 0 ⟨#[]⟩) 114).1=reg∧answersB ((opOf (un (l.getD 3 ⟨#[]⟩)):Nat):Int)=true then hasP ((opOf (un (l.getD 3 ⟨#[]⟩)):Nat):Int) (mkN (l.getD 1 ⟨#[]⟩) 116).1 (l.drop 4) else none):=by
  show _=_
  unfold insP
  rw [if_pos ⟨h3,he⟩]
  rfl
 unfold MkR at HM0 HM1
 unfold OpR at HOP
 clear hv4 hr4' c1 c2 c3 hop h3 he HL HLN HS h1
 generalize opOf (un (l.getD 3 ⟨#[]⟩))=k at *
 generalize l.getD 3 ⟨#[]⟩=s3 at *
 generalize l.getD 2 ⟨#[]⟩=s2 at *
 generalize mkN (l.getD 0 ⟨#[]⟩) 114=pa at *
 generalize mkN (l.getD 1 ⟨#[]⟩) 116=pb at *
 generalize l.getD 1 ⟨#[]⟩=s1 at *
 generalize l.getD 0 ⟨#[]⟩=s0 at *
 obtain ⟨qa,ea⟩:=pa
 obtain ⟨qb,eb⟩:=pb
 simp only at HM0 HM1 HQ
 generalize l.drop 4=m at *
 generalize l.length=ln at *
 go_enter Tryz.func165,Tryz.ntmps165
 go_upto_region 1 with fail
 rw [← HW.out]
 go_wp2_with fail
 refine (HM0.out W).mono ?_
 rintro e w1 ⟨rfl,hb1⟩
 have ha1:=h0.go hb1
 clear hb1 HM0
 go_wp2_with fail
 refine (HM1.out w1).mono ?_
 rintro e w2 ⟨rfl,hb2⟩
 have ha2:=ha1.go hb2
 clear hb2 HM1
 go_wp2_with fail
 refine (HOP.out w2).mono ?_
 rintro e w3 ⟨rfl,hb3⟩
 have ha3:=ha2.go hb3
 clear hb3 HOP ha1 ha2 d1 d2 d3 e2
 by_cases q1:ea=0
 rotate_left
 ·have HD:Hid (insP l reg=none):=HQ.out.trans (if_neg (fun h=>q1 h.1))
  have g1:(ea != 0)=true:=by simpa using q1
  clear HQ q1 HHS HAN
  have hn:=aft_heap ha3 HN0.out
  have y0:=cells_of hn 0 _ rfl;have y1:=cells_of hn 1 _ rfl;have y2:=cells_of hn 2 _ rfl;have y3:=cells_of hn 3 _ rfl;have y4:=cells_of hn 4 _ rfl;have y5:=cells_of hn 5 _ rfl;have y6:=cells_of hn 6 _ rfl
  have hz:=(ShTB.cells_heap hn).2
  have z0:=hz 0;have z1:=hz 1;have z2:=hz 2;have z3:=hz 3;have z4:=hz 4;have z5:=hz 5;have z6:=hz 6
  obtain ⟨W3,hW3,_,hk3,hb3⟩:=set7_world w3 w.heap.size 57 (.int .u8 0) (.int .i64 0) (.int .i64 0) (.int .i64 0) (.int .i64 0) (.slice none 0 0) (.slice none 0 0) (.int .u8 0) (.int .i64 0) (.int .i64 0) (.int .i64 0) (.int .i64 0) (.slice none 0 0) (.slice none 0 0) hn
  have HW3:=hid hW3
  have HB3:=hid (hb3 _ _ (ha3.out HBW.out) (Nat.le_refl _))
  exact q73x2
 by_cases q2:eb=0
 rotate_left
 ·have HD:Hid (insP l reg=none):=HQ.out.trans (if_neg (fun h=>q2 h.2.1))
  have g1:(ea != 0)=false:=by simpa using q1
  have g2:(eb != 0)=true:=by simpa using q2
  clear HQ q1 q2 HHS HAN
  have hn:=aft_heap ha3 HN0.out
  have y0:=cells_of hn 0 _ rfl;have y1:=cells_of hn 1 _ rfl;have y2:=cells_of hn 2 _ rfl;have y3:=cells_of hn 3 _ rfl;have y4:=cells_of hn 4 _ rfl;have y5:=cells_of hn 5 _ rfl;have y6:=cells_of hn 6 _ rfl
  have hz:=(ShTB.cells_heap hn).2
  have z0:=hz 0;have z1:=hz 1;have z2:=hz 2;have z3:=hz 3;have z4:=hz 4;have z5:=hz 5;have z6:=hz 6
  obtain ⟨W3,hW3,_,hk3,hb3⟩:=set7_world w3 w.heap.size 57 (.int .u8 0) (.int .i64 0) (.int .i64 0) (.int .i64 0) (.int .i64 0) (.slice none 0 0) (.slice none 0 0) (.int .u8 0) (.int .i64 0) (.int .i64 0) (.int .i64 0) (.int .i64 0) (.slice none 0 0) (.slice none 0 0) hn
  have HW3:=hid hW3
  have HB3:=hid (hb3 _ _ (ha3.out HBW.out) (Nat.le_refl _))
  exact q73x2
 by_cases q3:qa=reg
 rotate_left
 ·have HD:Hid (insP l reg=none):=HQ.out.trans (if_neg (fun h=>q3 h.2.2.1))
  have g1:(ea != 0)=false:=by simpa using q1
  have g2:(eb != 0)=false:=by simpa using q2
  have g3:(qa != reg)=true:=by simpa using q3
  clear HQ q1 q2 q3 HHS HAN
  have hn:=aft_heap ha3 HN0.out
  have y0:=cells_of hn 0 _ rfl;have y1:=cells_of hn 1 _ rfl;have y2:=cells_of hn 2 _ rfl;have y3:=cells_of hn 3 _ rfl;have y4:=cells_of hn 4 _ rfl;have y5:=cells_of hn 5 _ rfl;have y6:=cells_of hn 6 _ rfl
  have hz:=(ShTB.cells_heap hn).2
  have z0:=hz 0;have z1:=hz 1;have z2:=hz 2;have z3:=hz 3;have z4:=hz 4;have z5:=hz 5;have z6:=hz 6
  obtain ⟨W3,hW3,_,hk3,hb3⟩:=set7_world w3 w.heap.size 57 (.int .u8 0) (.int .i64 0) (.int .i64 0) (.int .i64 0) (.int .i64 0) (.slice none 0 0) (.slice none 0 0) (.int .u8 0) (.int .i64 0) (.int .i64 0) (.int .i64 0) (.int .i64 0) (.slice none 0 0) (.slice none 0 0) hn
  have HW3:=hid hW3
  have HB3:=hid (hb3 _ _ (ha3.out HBW.out) (Nat.le_refl _))
  exact q73x2
 have g1:(ea != 0)=false:=by simpa using q1
 have g2:(eb != 0)=false:=by simpa using q2
 have g3:(qa != reg)=false:=by simpa using q3
 go_wp2_with fail
 refine (HAN.out w3).mono ?_
 rintro e w4 ⟨rfl,rfl⟩
 cases q4:answersB (k:Int) with
 | false =>
  have HD:Hid (insP l reg=none):=HQ.out.trans (if_neg (fun h=>by rw [q4] at h;cases h.2.2.2))
  clear HQ q1 q2 q3 q4 HHS HAN
  have hn:=aft_heap ha3 HN0.out
  have y0:=cells_of hn 0 _ rfl;have y1:=cells_of hn 1 _ rfl;have y2:=cells_of hn 2 _ rfl;have y3:=cells_of hn 3 _ rfl;have y4:=cells_of hn 4 _ rfl;have y5:=cells_of hn 5 _ rfl;have y6:=cells_of hn 6 _ rfl
  have hz:=(ShTB.cells_heap hn).2
  have z0:=hz 0;have z1:=hz 1;have z2:=hz 2;have z3:=hz 3;have z4:=hz 4;have z5:=hz 5;have z6:=hz 6
  obtain ⟨W3,hW3,_,hk3,hb3⟩:=set7_world w3 w.heap.size 57 (.int .u8 0) (.int .i64 0) (.int .i64 0) (.int .i64 0) (.int .i64 0) (.slice none 0 0) (.slice none 0 0) (.int .u8 0) (.int .i64 0) (.int .i64 0) (.int .i64 0) (.int .i64 0) (.slice none 0 0) (.slice none 0 0) hn
  have HW3:=hid hW3
  have HB3:=hid (hb3 _ _ (ha3.out HBW.out) (Nat.le_refl _))
  exact q73x2
 | true =>
  have HD:Hid (insP l reg=hasP (k:Int) qb m):=HQ.out.trans (if_pos ⟨q1,q2,q3,q4⟩)
  have HH:=hid (HHS.out qb w3 ha3)
  clear HQ q1 q2 q3 q4 HHS HAN
  go_wp2_with fail
  refine (HH.out).mono ?_
  rintro e w9 ⟨y,va,vf,rfl,hy,ho9,hb9⟩
  have h9:=ha3.go hb9
  have hn:=aft_heap h9 HN0.out
  have y0:=cells_of hn 0 _ rfl;have y1:=cells_of hn 1 _ rfl;have y2:=cells_of hn 2 _ rfl;have y3:=cells_of hn 3 _ rfl;have y4:=cells_of hn 4 _ rfl;have y5:=cells_of hn 5 _ rfl;have y6:=cells_of hn 6 _ rfl
  have hz:=(ShTB.cells_heap hn).2
  have z0:=hz 0;have z1:=hz 1;have z2:=hz 2;have z3:=hz 3;have z4:=hz 4;have z5:=hz 5;have z6:=hz 6
  have hws:w.heap.size < W.heap.size:=(Array.getElem?_eq_some_iff.1 HN0.out).1
  have hsz:=ha3.size
  obtain ⟨W3,hW3,hne3,hk3,hb3⟩:=set7_world w9 w.heap.size 57 (.int .u8 0) (.int .i64 0) (.int .i64 0) (.int .i64 0) (.int .i64 0) (.slice none 0 0) (.slice none 0 0) (.int .u8 y.op) (.int .i64 y.typ) (.int .i64 y.a) (.int .i64 y.b) (.int .i64 y.n) va vf hn
  have HW3:=hid hW3
  have hbl:=hb3 0 w9 (Below.refl _ _) (by omega)
  have hgr:w9.grownBy W3 (some w.heap.size):=⟨hbl.os,hbl.tape,hbl.output,hbl.size,fun k _ hk=>hne3 k (fun e=>hk (by rw [e]))⟩
  have HB3:=hid (hb3 w.heap.size w (h9.out HBW.out) (Nat.le_refl _))
  have HOW:Hid (OwnIr w.heap.size W3 ⟨y,va,vf⟩):=⟨owns_base (owns_other ho9.1 hgr (ShTB.typed_at hn) (by decide)) (by omega),owns_base (owns_other ho9.2 hgr (ShTB.typed_at hn) (by decide)) (by omega)⟩
  have HY:=hid hy
  obtain ⟨va1,va3,hva⟩:=own_form ho9.1
  obtain ⟨vf1,vf3,hvf⟩:=own_form ho9.2
  dsimp only at hva hvf
  subst hva
  subst hvf
  have x0:=cells_of hk3 0 _ rfl;have x1:=cells_of hk3 1 _ rfl;have x2:=cells_of hk3 2 _ rfl;have x3:=cells_of hk3 3 _ rfl;have x4:=cells_of hk3 4 _ rfl;have x5:=cells_of hk3 5 _ rfl;have x6:=cells_of hk3 6 _ rfl
  clear hn hz hW3 hk3 hb3 hbl hgr hy ho9 hb9 hne3 hws hsz
  go_wp2
  (try simp only [Exit.inBlock,Exit.then])
  rw [← HW3.out]
  refine bodyPost_ret (by simp [results,Tryz.results165,go_sem,x0,x1,x2,x3,x4,x5,x6];try rfl) rfl ?_
  exact ⟨y,_,_,by rw [HD.out],(fun z h=>by rw [HD.out] at h;exact HY.out z h),HOW.out,HB3.out⟩
theorem q73x1 {P:Prop} (h:P:=by
 go_enter Tryz.func165,Tryz.ntmps165
 go_upto_region 1 with fail
 rw [← HW.out]
 go_wp2_with fail
 refine (HOP.out W).mono ?_
 rintro e w1 ⟨rfl,hb1⟩
 have ha1:=h0.go hb1
 clear hb1 HOP d0
 by_cases q1:k=0
 ·have HD:Hid (insP l reg=none):=HQ.out.trans (if_pos (.inl q1))
  subst q1
  clear HQ HQ2 HHS
  have hn:=aft_heap ha1 HN0.out
  have y0:=cells_of hn 0 _ rfl;have y1:=cells_of hn 1 _ rfl;have y2:=cells_of hn 2 _ rfl;have y3:=cells_of hn 3 _ rfl;have y4:=cells_of hn 4 _ rfl;have y5:=cells_of hn 5 _ rfl;have y6:=cells_of hn 6 _ rfl
  have hz:=(ShTB.cells_heap hn).2
  have z0:=hz 0;have z1:=hz 1;have z2:=hz 2;have z3:=hz 3;have z4:=hz 4;have z5:=hz 5;have z6:=hz 6
  obtain ⟨W3,hW3,_,hk3,hb3⟩:=set7_world w1 w.heap.size 57 (.int .u8 0) (.int .i64 0) (.int .i64 0) (.int .i64 0) (.int .i64 0) (.slice none 0 0) (.slice none 0 0) (.int .u8 0) (.int .i64 0) (.int .i64 0) (.int .i64 0) (.int .i64 0) (.slice none 0 0) (.slice none 0 0) hn
  have HW3:=hid hW3
  have HB3:=hid (hb3 _ _ (ha1.out HBW.out) (Nat.le_refl _))
  have x0:=cells_of hk3 0 _ rfl;have x1:=cells_of hk3 1 _ rfl;have x2:=cells_of hk3 2 _ rfl;have x3:=cells_of hk3 3 _ rfl;have x4:=cells_of hk3 4 _ rfl;have x5:=cells_of hk3 5 _ rfl;have x6:=cells_of hk3 6 _ rfl
  clear hn hz hW3 hk3 hb3
  go_wp2
  (try simp only [Exit.inBlock,Exit.then])
  rw [← HW3.out]
  refine bodyPost_ret (by simp [results,Tryz.results165,go_sem,x0,x1,x2,x3,x4,x5,x6];try rfl) rfl ?_
  exact ⟨⟨0,0,0,0,0,[],[]⟩,.slice none 0 0,.slice none 0 0,by rw [HD.out];rfl,(fun z h=>by rw [HD.out] at h;cases h),⟨World.ownsRow_nil _ _ _ _,World.ownsRow_nil _ _ _ _⟩,HB3.out⟩
 have g1:(((k:Nat):Int) == 0)=false:=by rw [beq_eq_false_iff_ne];omega
 go_wp2_with fail
 refine (HQ2.out w1 ha1).mono ?_
 rintro e w4 ⟨rfl,rfl⟩
 cases q4:answersB (k:Int) with
 | true =>
  have HD:Hid (insP l reg=none):=HQ.out.trans (if_pos (.inr q4))
  clear HQ q1 q4 HHS HQ2
  have hn:=aft_heap ha1 HN0.out
  have y0:=cells_of hn 0 _ rfl;have y1:=cells_of hn 1 _ rfl;have y2:=cells_of hn 2 _ rfl;have y3:=cells_of hn 3 _ rfl;have y4:=cells_of hn 4 _ rfl;have y5:=cells_of hn 5 _ rfl;have y6:=cells_of hn 6 _ rfl
  have hz:=(ShTB.cells_heap hn).2
  have z0:=hz 0;have z1:=hz 1;have z2:=hz 2;have z3:=hz 3;have z4:=hz 4;have z5:=hz 5;have z6:=hz 6
  obtain ⟨W3,hW3,_,hk3,hb3⟩:=set7_world w1 w.heap.size 57 (.int .u8 0) (.int .i64 0) (.int .i64 0) (.int .i64 0) (.int .i64 0) (.slice none 0 0) (.slice none 0 0) (.int .u8 0) (.int .i64 0) (.int .i64 0) (.int .i64 0) (.int .i64 0) (.slice none 0 0) (.slice none 0 0) hn
  have HW3:=hid hW3
  have HB3:=hid (hb3 _ _ (ha1.out HBW.out) (Nat.le_refl _))
  have x0:=cells_of hk3 0 _ rfl;have x1:=cells_of hk3 1 _ rfl;have x2:=cells_of hk3 2 _ rfl;have x3:=cells_of hk3 3 _ rfl;have x4:=cells_of hk3 4 _ rfl;have x5:=cells_of hk3 5 _ rfl;have x6:=cells_of hk3 6 _ rfl
  clear hn hz hW3 hk3 hb3
  go_wp2
  (try simp only [Exit.inBlock,Exit.then])
  rw [← HW3.out]
  refine bodyPost_ret (by simp [results,Tryz.results165,go_sem,x0,x1,x2,x3,x4,x5,x6];try rfl) rfl ?_
  exact ⟨⟨0,0,0,0,0,[],[]⟩,.slice none 0 0,.slice none 0 0,by rw [HD.out];rfl,(fun z h=>by rw [HD.out] at h;cases h),⟨World.ownsRow_nil _ _ _ _,World.ownsRow_nil _ _ _ _⟩,HB3.out⟩
 | false =>
  have HD:Hid (insP l reg=hasP (k:Int) 0 m):=HQ.out.trans (if_neg (fun h=>h.elim q1 (fun h=>by rw [q4] at h;cases h)))
  have HH:=hid (HHS.out w1 ha1)
  clear HQ q1 q4 HHS HQ2
  go_wp2_with fail
  refine (HH.out).mono ?_
  rintro e w9 ⟨y,va,vf,rfl,hy,ho9,hb9⟩
  have h9:=ha1.go hb9
  have hn:=aft_heap h9 HN0.out
  have y0:=cells_of hn 0 _ rfl;have y1:=cells_of hn 1 _ rfl;have y2:=cells_of hn 2 _ rfl;have y3:=cells_of hn 3 _ rfl;have y4:=cells_of hn 4 _ rfl;have y5:=cells_of hn 5 _ rfl;have y6:=cells_of hn 6 _ rfl
  have hz:=(ShTB.cells_heap hn).2
  have z0:=hz 0;have z1:=hz 1;have z2:=hz 2;have z3:=hz 3;have z4:=hz 4;have z5:=hz 5;have z6:=hz 6
  have hws:w.heap.size < W.heap.size:=(Array.getElem?_eq_some_iff.1 HN0.out).1
  have hsz:=ha1.size
  obtain ⟨W3,hW3,hne3,hk3,hb3⟩:=set7_world w9 w.heap.size 57 (.int .u8 0) (.int .i64 0) (.int .i64 0) (.int .i64 0) (.int .i64 0) (.slice none 0 0) (.slice none 0 0) (.int .u8 y.op) (.int .i64 y.typ) (.int .i64 y.a) (.int .i64 y.b) (.int .i64 y.n) va vf hn
  have HW3:=hid hW3
  have hbl:=hb3 0 w9 (Below.refl _ _) (by omega)
  have hgr:w9.grownBy W3 (some w.heap.size):=⟨hbl.os,hbl.tape,hbl.output,hbl.size,fun k _ hk=>hne3 k (fun e=>hk (by rw [e]))⟩
  have HB3:=hid (hb3 w.heap.size w (h9.out HBW.out) (Nat.le_refl _))
  have HOW:Hid (OwnIr w.heap.size W3 ⟨y,va,vf⟩):=⟨owns_base (owns_other ho9.1 hgr (ShTB.typed_at hn) (by decide)) (by omega),owns_base (owns_other ho9.2 hgr (ShTB.typed_at hn) (by decide)) (by omega)⟩
  have HY:=hid hy
  obtain ⟨va1,va3,hva⟩:=own_form ho9.1
  obtain ⟨vf1,vf3,hvf⟩:=own_form ho9.2
  dsimp only at hva hvf
  subst hva
  subst hvf
  have x0:=cells_of hk3 0 _ rfl;have x1:=cells_of hk3 1 _ rfl;have x2:=cells_of hk3 2 _ rfl;have x3:=cells_of hk3 3 _ rfl;have x4:=cells_of hk3 4 _ rfl;have x5:=cells_of hk3 5 _ rfl;have x6:=cells_of hk3 6 _ rfl
  clear hn hz hW3 hk3 hb3 hbl hgr hy ho9 hb9 hne3 hws hsz
  go_wp2
  (try simp only [Exit.inBlock,Exit.then])
  rw [← HW3.out]
  refine bodyPost_ret (by simp [results,Tryz.results165,go_sem,x0,x1,x2,x3,x4,x5,x6];try rfl) rfl ?_
  exact ⟨y,_,_,by rw [HD.out],(fun z h=>by rw [HD.out] at h;exact HY.out z h),HOW.out,HB3.out⟩):P:=h
theorem ins_not (l:List ByteArray) (reg:Int) (v:Value) (w:World) (hl:LxP.StrsAt w v l) (h1:1≤l.length) (hn:l.length≤100000) (hs:∀ x∈l,x.size≤9223372036854775807) (hz:¬ (3 < l.length∧un (l.getD 2 ⟨#[]⟩)=[61])) :
  Calls Tryz.prog 165 #[v,.int .i64 reg] w (InsR (insP l reg) w):=by
 obtain ⟨W,hW⟩:∃ W,W=w.alloc (.cells #[.int .u8 0,.int .i64 0,.int .i64 0,.int .i64 0,.int .i64 0,.slice none 0 0,.slice none 0 0] 57):=⟨_,rfl⟩
 have HBW:Hid (Below w.heap.size w W):=by show Below _ _ _;rw [hW];exact alloc_below _ _
 have HN0:Hid (W.heap[w.heap.size]?=some (.cells #[.int .u8 0,.int .i64 0,.int .i64 0,.int .i64 0,.int .i64 0,.slice none 0 0,.slice none 0 0] 57 (0,0))):=by show _=_;rw [hW];exact alloc_new _ _
 have HW:=hid hW
 have HL:=hid (hl.below HBW.out)
 have HS:=hid hs
 have HLN:=hid hn
 obtain ⟨ao,cap,rfl,_⟩:=hl.slice
 obtain ⟨b,off,rfl,c0⟩:=word_at HL.out 0 h1
 rw [Nat.add_zero] at c0
 have d0:=later c0
 have h0:=Aft.refl W
 have hi0:(0:Int) < l.length:=by omega
 have hk0:0 < l.length:=h1
 clear hl hW hs hn c0
 have HOP:=hid (fun wx=>operation_calls (l.getD 0 ⟨#[]⟩) wx)
 obtain ⟨v4,hv4,hr4'⟩:=strs_drop HL.out (k:=1) h1
 have hr4:∀ wx:World,(Instr.slice 74 (.slice (some ⟨b,off,none⟩) l.length cap) (some (.int .i64 1)) none none).run Tryz.prog wx=.ok v4 wx:=hr4'
 have hop:opOf (un (l.getD 0 ⟨#[]⟩))≤255:=op_small _
 have HHS:=hid (fun wx (hx:Aft W wx)=>has_calls ((opOf (un (l.getD 0 ⟨#[]⟩)):Nat):Int) 0 (l.drop 1) v4 wx (by omega) (by omega) (hv4.below hx.below) (by have:=HLN.out;rw [List.length_drop];omega) (fun x hx=>HS.out x (List.mem_of_mem_drop hx)))
 have HAN:=hid (fun wx=>answersR_calls ((opOf (un (l.getD 0 ⟨#[]⟩)):Nat):Int) (by omega) (by omega) wx)
 obtain ⟨sl4,ca4,rfl,_⟩:=hv4.slice
 have HQ:Hid (insP l reg=if opOf (un (l.getD 0 ⟨#[]⟩))=0∨answersB ((opOf (un (l.getD 0 ⟨#[]⟩)):Nat):Int)=true then none else hasP ((opOf (un (l.getD 0 ⟨#[]⟩)):Nat):Int) 0 (l.drop 1)):=by
  show _=_
  unfold insP
  rw [if_neg hz]
  rfl
 have hg:(¬ (3:Int) < l.length)∨((3:Int) < l.length∧2 < l.length∧(2:Int) < l.length∧(∀ w',Aft W w'→w'.cell? ⟨b,off+2,none⟩=some (.string (l.getD 2 ⟨#[]⟩)))∧((l.getD 2 ⟨#[]⟩).toList == [61])=false):=by
  by_cases h3:3 < l.length
  ·refine .inr ⟨by omega,by omega,by omega,?_,?_⟩
   ·obtain ⟨b2,o2,hbb,c2⟩:=word_at HL.out 2 (by omega)
    cases hbb
    exact later c2
   ·rw [str_eq]
    exact decide_eq_false (fun e=>hz ⟨h3,e⟩)
  ·exact .inl (by omega)
 unfold OpR at HOP
 clear hv4 hr4' hop HL HLN HS h1 hz
 generalize opOf (un (l.getD 0 ⟨#[]⟩))=k at *
 generalize l.getD 2 ⟨#[]⟩=s2 at *
 generalize l.getD 0 ⟨#[]⟩=s0 at *
 generalize l.drop 1=m at *
 generalize l.length=ln at *
 have HQ2:Hid (∀ w3,Aft W w3→Calls Tryz.prog 106 #[.int .u8 (k:Int)] w3 (PureR (answersB (k:Int)) w3)):=fun w3 _=>HAN.out w3
 clear HAN
 rcases hg with hg3 | ⟨hg3,hg2,hg2i,d2,e2⟩
 ·skip
  exact q73x1
 ·skip
  exact q73x1
theorem ins_calls (l:List ByteArray) (reg:Int) (v:Value) (w:World) (hl:LxP.StrsAt w v l) (h1:1≤l.length) (hn:l.length≤100000) (hs:∀ x∈l,x.size≤9223372036854775807) :
  Calls Tryz.prog 165 #[v,.int .i64 reg] w (InsR (insP l reg) w):=by
 by_cases h:3 < l.length∧un (l.getD 2 ⟨#[]⟩)=[61]
 ·exact ins_reg l reg v w hl h1 hn hs h.1 h.2
 ·exact ins_not l reg v w hl h1 hn hs h
end Go.Proofs.YtbebficgcemkoaaGreatDoor.RdI
namespace Go.Proofs.YtbebficgcemkoaaGreatDoor.RdL
open Go.RowKit Go.Lib TyM TyP ShM ShP ShB IntO SetP LxM LxJ LxY RwO RdM RdN RdV RdA RdO RdB RdE RdP RdI Aft Fresh
open LxP (LinesAt StrsAt)
open RcR (preB preB_nil preB_pre block_step row_new set14_world)
open RcP (Fine FineL)

structure BkS (w:World) (x:Ex) (vi:Value) (rows:List Ir) (wr:World):Prop where
 res:wr.heap[w.heap.size]?=some (.cells #[.slice none 0 0,.int .u8 0,.int .i64 0,.int .i64 0,.int .i64 0] 54 (0,0))
 box:wr.heap[w.heap.size+1]?=some (.cells #[vi,.int .u8 x.kind,.int .i64 x.a,.int .i64 x.to,.int .i64 x.els] 54 (0,0))
 own:OwnIns w.heap.size wr vi rows
 below:Below w.heap.size w wr
 size:w.heap.size+2≤wr.heap.size
theorem BkS.on {w:World} {x:Ex} {vi:Value} {rows:List Ir} {wr w' : World} (h:BkS w x vi rows wr) (hb:Below wr.heap.size wr w'):BkS w x vi rows w' :=
 ⟨(hb.block _ (by have:=h.size;omega)).trans h.res,(hb.block _ (by have:=h.size;omega)).trans h.box,h.own.below hb,h.below.trans (hb.mono (by have:=h.size;omega)),Nat.le_trans h.size hb.size⟩
theorem BkS.start (w:World):BkS w ⟨0,0,0,0⟩ (.slice none 0 0) [] ((w.alloc (.cells #[.slice none 0 0,.int .u8 0,.int .i64 0,.int .i64 0,.int .i64 0] 54)).alloc (.cells #[.slice none 0 0,.int .u8 0,.int .i64 0,.int .i64 0,.int .i64 0] 54)):=by
 refine ⟨alloc_old (alloc_new _ _) _,?_,⟨World.ownsRow_nil _ _ _ _,by simp⟩,(alloc_below _ _).alloc (by simp) _,by simp only [World.size_alloc];omega⟩
 have:=alloc_new (w.alloc (.cells #[.slice none 0 0,.int .u8 0,.int .i64 0,.int .i64 0,.int .i64 0] 54)) (.cells #[.slice none 0 0,.int .u8 0,.int .i64 0,.int .i64 0,.int .i64 0] 54)
 rwa [World.size_alloc] at this
theorem BkS.grow {w:World} {x:Ex} {vi v5:Value} {rows:List Ir} {w4 w5:World} {y:Ir} (h:BkS w x vi rows w4) (hy:OwnIr w.heap.size w4 y) (h5:w5.ownsRow w.heap.size 57 7 v5 (rows.length+1) (rowOf irV rows++rowOf irV [y])) (hg:w4.grownBy w5 vi.ownBlock) :
  w5.heap[w.heap.size+1]?=some (.cells #[vi,.int .u8 x.kind,.int .i64 x.a,.int .i64 x.to,.int .i64 x.els] 54 (0,0))∧BkS w x v5 (rows++[y]) (w5.setCell ⟨w.heap.size+1,0,none⟩ v5):=by
 obtain ⟨g1,g2,g3⟩:=ShTB.ins_step h.own hy h5 hg h.box
 have hs:=h.size
 have hlo:=h.own.1.lt
 have hne:vi.ownBlock≠some w.heap.size:=fun e=>by
  obtain ⟨cs2,fr2,h3⟩:=own_typed h.own.1 _ e
  rw [h.res] at h3
  simp at h3
 have hres:w5.heap[w.heap.size]?=_:=(hg.block _ (Array.getElem?_eq_some_iff.1 h.res).1 (fun e=>hne e.symm)).trans h.res
 exact ⟨g2,⟨(Below.heap_setCell _ _ _ _ (by simp)).trans hres,g3.trans (by simp),g1,(h.below.grown hg (by omega) (fun k hk=>(hlo k hk).1)).setCell (p:=⟨w.heap.size+1,0,none⟩) (Nat.le_succ _) v5,by rw [ShTB.size_set];have:=hg.size;omega⟩⟩
theorem BkS.fin {w:World} {x y:Ex} {vi:Value} {rows:List Ir} {wr:World} (h:BkS w x vi rows wr) :
  ∃ W3,W3=((((wr.setCell ⟨w.heap.size+1,1,none⟩ (.int .u8 y.kind)).setCell ⟨w.heap.size+1,2,none⟩ (.int .i64 y.a)).setCell ⟨w.heap.size+1,3,none⟩ (.int .i64 y.to)).setCell ⟨w.heap.size+1,4,none⟩ (.int .i64 y.els))∧BkS w y vi rows W3:=by
 obtain ⟨W3,h1,h2,h3,h4⟩:=set14_world wr (w.heap.size+1) 54 vi _ _ _ _ (.int .u8 y.kind) (.int .i64 y.a) (.int .i64 y.to) (.int .i64 y.els) h.box
 have hb:=h4 0 wr (Below.refl _ _) (Nat.zero_le _)
 have hgr:wr.grownBy W3 (some (w.heap.size+1)):=⟨hb.os,hb.tape,hb.output,hb.size,fun k _ hk=>h2 k (fun e=>hk (by rw [e]))⟩
 exact ⟨W3,h1,(h2 _ (by omega)).trans h.res,h3,h.own.other hgr (ShTB.typed_at h.box) (by decide) (by decide),h4 _ _ h.below (by omega),Nat.le_trans h.size hb.size⟩
theorem BkS.done {w:World} {x:Ex} {vi:Value} {rows:List Ir} {wr:World} (h:BkS w x vi rows wr) :
  ∃ W3,W3=(((((wr.setCell ⟨w.heap.size,0,none⟩ vi).setCell ⟨w.heap.size,1,none⟩ (.int .u8 x.kind)).setCell ⟨w.heap.size,2,none⟩ (.int .i64 x.a)).setCell ⟨w.heap.size,3,none⟩ (.int .i64 x.to)).setCell ⟨w.heap.size,4,none⟩ (.int .i64 x.els)) ∧
   W3.heap[w.heap.size]?=some (.cells #[vi,.int .u8 x.kind,.int .i64 x.a,.int .i64 x.to,.int .i64 x.els] 54 (0,0))∧OwnIns w.heap.size W3 vi rows∧Below w.heap.size w W3:=by
 obtain ⟨W3,h1,h2,h3,h4⟩:=set5_world wr w.heap.size 54 _ _ _ _ _ vi (.int .u8 x.kind) (.int .i64 x.a) (.int .i64 x.to) (.int .i64 x.els) h.res
 have hb:=h4 0 wr (Below.refl _ _) (Nat.zero_le _)
 have hgr:wr.grownBy W3 (some w.heap.size):=⟨hb.os,hb.tape,hb.output,hb.size,fun k _ hk=>h2 k (fun e=>hk (by rw [e]))⟩
 exact ⟨W3,h1,h3,h.own.other hgr (ShTB.typed_at h.res) (by decide) (by decide),h4 _ _ h.below (Nat.le_refl _)⟩
theorem line_at {w:World} {ao:Option Addr} {n cap:Nat} {s:List Ln} (h:LinesAt w (.slice ao n cap) s) (k:Nat) (hk:k < s.length) (h1:1≤(s.getD k []).length) :
  ∃ b off b2 o2 c2,ao=some ⟨b,off,none⟩∧w.cell? ⟨b,off+k,none⟩=some (.slice (some ⟨b2,o2,none⟩) (s.getD k []).length c2)∧w.cell? ⟨b2,o2,none⟩=some (.string ((s.getD k []).getD 0 ⟨#[]⟩))∧StrsAt w (.slice (some ⟨b2,o2,none⟩) (s.getD k []).length c2) (s.getD k []):=by
 have hg:s.getD k []=s[k]:=by rw [List.getD_eq_getElem?_getD,List.getElem?_eq_getElem hk];rfl
 rw [hg] at h1 ⊢
 obtain ⟨b,off,pv,ha,_,hc,hs⟩:=h.at k hk
 obtain ⟨a2,c2,rfl,_⟩:=hs.slice
 obtain ⟨b2,o2,rfl,hw⟩:=word_at hs 0 h1
 exact ⟨b,off,b2,o2,c2,ha,hc,hw,hs⟩
def BlkR (o:Option (Bx × Nat)) (w:World) (e:Ending) (w' : World):Prop :=
 ∃ (x:Ex) (vi:Value) (rows:List Ir) (n:Int),e=.returned (.tuple #[bxV ⟨rows.map Ir.x,x⟩ vi,.int .i64 n,.bool o.isSome])∧OwnIns w.heap.size w' vi rows∧Below w.heap.size w w'∧∀ q m,o=some (q,m)→q=⟨rows.map Ir.x,x⟩∧n=(m:Nat)
theorem q75x1 {P:Prop} (h:P:=by
 have HW3:=hid hW3
 have HO3:=hid ho3
 have HB3:=hid hb3
 have x0:=cells_of hk3 0 _ rfl;have x1:=cells_of hk3 1 _ rfl;have x2:=cells_of hk3 2 _ rfl;have x3:=cells_of hk3 3 _ rfl;have x4:=cells_of hk3 4 _ rfl
 clear hre hz hW3 hk3 ho3 hb3 hbx
 go_wp2
 (try simp only [Exit.inBlock,Exit.then])
 rw [← HW3.out]
 refine bodyPost_ret (by simp [results,Tryz.results149,go_sem,x0,x1,x2,x3,x4];try rfl) rfl ?_
 exact ⟨⟨0,0,0,0⟩,_,rows,0,by rw [HN.out];rfl,HO3.out,HB3.out,fun q m h=>by rw [HN.out] at h;cases h⟩):P:=h
theorem block_calls (L:List Ln) (reg:Int) (v:Value) (w:World) (hl:LinesAt w v L) (hf:FineL L) (hreg:0≤reg∧reg+L.length≤1000000000) :
  Calls Tryz.prog 149 #[v,.int .i64 reg] w (BlkR (blockP L reg) w):=by
 obtain ⟨W,hW⟩:∃ W,W=(w.alloc (.cells #[.slice none 0 0,.int .u8 0,.int .i64 0,.int .i64 0,.int .i64 0] 54)).alloc (.cells #[.slice none 0 0,.int .u8 0,.int .i64 0,.int .i64 0,.int .i64 0] 54):=⟨_,rfl⟩
 have hs0:=BkS.start w
 rw [← hW] at hs0
 have HW:=hid hW
 have HS0:=hid hs0
 have HL:=hid hl
 have HF:=hid hf
 have HREG:=hid hreg
 obtain ⟨ao,cap,rfl,_⟩:=hl.slice
 have HP0:Hid (blockP L reg=preB (([]:List Ir).map Ir.x) (blockP (L.drop 0) (reg+((0:Nat):Int)))):=by
  show _=_
  simp only [List.map_nil,preB_nil,List.drop_zero]
  rw [show reg+((0:Nat):Int)=reg by omega]
 generalize hoo:blockP L reg=oo at *
 clear hl hf hreg hW hs0 hoo
 go_enter Tryz.func149,Tryz.ntmps149
 go_wp2_with fail
 rw [← HW.out]
 clear HW
 go_loopg [8] (L.length+1) (fun gk i wr=>∃ (k:Nat) (vi:Value) (rows:List Ir),k+gk=L.length+1∧k≤L.length∧i=.int .i64 (k:Int)∧rows.length=k∧oo=preB (rows.map Ir.x) (blockP (L.drop k) (reg+k))∧BkS w ⟨0,0,0,0⟩ vi rows wr)
 case atStart=>exact ⟨0,_,[],by omega,Nat.zero_le _,rfl,rfl,HP0.out,HS0.out⟩
 case round =>
  clear HS0 HP0
  obtain ⟨k,vi,rows,hk,hkl,rfl,hrl,hp,hs⟩:=hrel
  have HK:=hid hk
  have HRL:=hid hrl
  have HP:=hid hp
  have HS:=hid hs
  obtain ⟨i1,i2,hvi⟩:=own_form hs.own.1
  subst hvi
  clear hk hp hs hrl
  by_cases hlt:k < L.length
  rotate_left
  ·have HN:Hid (oo=none):=by show _=_;rw [HP.out,List.drop_of_length_le (by omega)];rfl
   have hli:¬ ((k:Int) < L.length):=by omega
   clear hlt hkl HP
   have hbx:=HS.out.box
   have m0:=cells_of hbx 0 _ rfl;have m1:=cells_of hbx 1 _ rfl;have m2:=cells_of hbx 2 _ rfl;have m3:=cells_of hbx 3 _ rfl;have m4:=cells_of hbx 4 _ rfl
   have hre:=HS.out.res
   have y0:=cells_of hre 0 _ rfl;have y1:=cells_of hre 1 _ rfl;have y2:=cells_of hre 2 _ rfl;have y3:=cells_of hre 3 _ rfl;have y4:=cells_of hre 4 _ rfl
   have hz:=(ShTB.cells_heap hre).2
   have z0:=hz 0;have z1:=hz 1;have z2:=hz 2;have z3:=hz 3;have z4:=hz 4
   obtain ⟨W3,hW3,hk3,ho3,hb3⟩:=HS.out.done
   exact q75x1
  have hmem:L.getD k []∈L:=by rw [List.getD_eq_getElem?_getD,List.getElem?_eq_getElem hlt];exact List.getElem_mem _
  have hd:L.drop k=L.getD k [] :: L.drop (k+1):=by rw [List.drop_eq_getElem_cons hlt,List.getD_eq_getElem?_getD,List.getElem?_eq_getElem hlt];rfl
  have hl1:=(HF.out.2 _ hmem).1
  have hfi:=(HF.out.2 _ hmem).2
  obtain ⟨b,off,b2,o2,c2,rfl,k0,k1,hsl⟩:=line_at (HL.out.below HS.out.below) k hlt hl1
  have hki:(k:Int) < L.length:=by omega
  have hkp:(0:Int)≤(k:Int):=by omega
  have HSL:=hid hsl
  have HFI:=hid hfi
  have HLT:=hid hlt
  rw [hd] at HP
  have HLL:=hid HF.out.1
  have HRG:=hid HREG.out
  generalize L.getD k []=l at *
  have hl0:0 < l.length:=hl1
  have HL1:=hid hl1
  generalize hM:L.drop (k+1)=M at *
  have HM:=hid hM
  have HENC:=hid (end_calls l _ wr hsl hl1 (by have:=hfi.1;omega) (fun x hx=>(hfi.2 x hx).2))
  have hwr:IntKind.i64.wrap (reg+(k:Int))=reg+k:=IntWalk.i64_in _ (by have:=HRG.out;omega)
  have hwk:IntKind.i64.wrap ((k:Int)+1)=((k+1:Nat):Int):=by rw [IntWalk.i64_in _ (by have:=HLL.out;omega)];omega
  have HINC:=hid (ins_calls l (reg+k) _ wr hsl hl1 (by have:=hfi.1;omega) (fun x hx=>(hfi.2 x hx).2))
  clear hM hmem hd hsl hfi hl1 hlt hkl
  generalize hw0:l.getD 0 ⟨#[]⟩=s0 at *
  have HW0:=hid hw0
  clear hw0
  generalize L.length=Ln at *
  generalize l.length=ln at *
  go_wp2_with fail
  refine (isEnd_calls s0 wr).mono ?_
  rintro e w2 ⟨rfl,rfl⟩
  cases he:isEndB (un s0) with
  | true =>
   have HN:Hid (oo=(endP l).map fun e=>(⟨rows.map Ir.x,e⟩,1+k)):=by
    show _=_
    rw [HP.out,blockP,if_pos (by show isEndB (un (l.getD 0 ⟨#[]⟩))=true;rw [HW0.out];exact he)]
    cases endP l with
    | none=>rfl
    | some e=>simp [preB,HRL.out]
   clear HINC he HP hwr
   go_wp2_with fail
   refine HENC.out.mono ?_
   rintro e w3 ⟨x,rfl,hx,hb3⟩
   have HX:=hid hx
   obtain ⟨X3,hX3⟩:∃ X,X=w3.alloc (.cells #[.int .u8 x.kind,.int .i64 x.a,.int .i64 x.to,.int .i64 x.els] 52):=⟨_,rfl⟩
   have hk3:X3.heap[w3.heap.size]?=some (.cells #[.int .u8 x.kind,.int .i64 x.a,.int .i64 x.to,.int .i64 x.els] 52 (0,0)):=by rw [hX3];exact alloc_new _ _
   have HX3:=hid hX3
   have HS3:=hid ((HS.out.on hb3).on (show Below w3.heap.size w3 X3 by rw [hX3];exact alloc_below _ _))
   have v0:=cells_of hk3 0 _ rfl;have v1:=cells_of hk3 1 _ rfl;have v2:=cells_of hk3 2 _ rfl;have v3:=cells_of hk3 3 _ rfl
   obtain ⟨X4,hX4,hs4⟩:=HS3.out.fin (y:=x)
   have HX4:=hid hX4
   have HS4:=hid hs4
   have hbx3:=HS3.out.box
   have m0:=cells_of hbx3 0 _ rfl;have m1:=cells_of hbx3 1 _ rfl;have m2:=cells_of hbx3 2 _ rfl;have m3:=cells_of hbx3 3 _ rfl;have m4:=cells_of hbx3 4 _ rfl
   have hz:=(ShTB.cells_heap HS3.out.box).2
   have u1:=hz 1;have u2:=hz 2;have u3:=hz 3;have u4:=hz 4
   clear hX3 hk3 hX4 hs4 hz hbx3 hx hb3 HENC HS
   go_upto_region 7 with fail
   rw [← HX3.out]
   go_upto_region 8 with fail
   rw [← HX4.out]
   clear v0 v1 v2 v3 u1 u2 u3 u4 k0 k1 HX3 HX4 HS3 m0 m1 m2 m3 m4
   have hbx:=HS4.out.box
   have m0:=cells_of hbx 0 _ rfl;have m1:=cells_of hbx 1 _ rfl;have m2:=cells_of hbx 2 _ rfl;have m3:=cells_of hbx 3 _ rfl;have m4:=cells_of hbx 4 _ rfl
   have hre:=HS4.out.res
   have y0:=cells_of hre 0 _ rfl;have y1:=cells_of hre 1 _ rfl;have y2:=cells_of hre 2 _ rfl;have y3:=cells_of hre 3 _ rfl;have y4:=cells_of hre 4 _ rfl
   have hz:=(ShTB.cells_heap hre).2
   have z0:=hz 0;have z1:=hz 1;have z2:=hz 2;have z3:=hz 3;have z4:=hz 4
   obtain ⟨W3,hW3,hk3,ho3,hb3⟩:=HS4.out.done
   have HW3:=hid hW3
   have HO3:=hid ho3
   have HB3:=hid hb3
   have x0:=cells_of hk3 0 _ rfl;have x1:=cells_of hk3 1 _ rfl;have x2:=cells_of hk3 2 _ rfl;have x3:=cells_of hk3 3 _ rfl;have x4:=cells_of hk3 4 _ rfl
   clear hre hz hW3 hk3 ho3 hb3 hbx
   go_wp2
   (try simp only [Exit.inBlock,Exit.then])
   rw [← HW3.out]
   refine bodyPost_ret (by simp [results,Tryz.results149,go_sem,x0,x1,x2,x3,x4];try rfl) rfl ?_
   exact ⟨x,_,rows,(k:Int)+1,by rw [HN.out,Option.isSome_map],HO3.out,HB3.out,fun q m h=>by
    rw [HN.out] at h
    cases hE:endP l with
    | none=>rw [hE] at h;cases h
    | some y =>
     rw [hE] at h
     cases h
     exact ⟨by rw [HX.out y hE],by omega⟩⟩
  | false =>
   clear HENC
   have HE:Hid (isEndB (w0 l)=false):=by show isEndB (un (l.getD 0 ⟨#[]⟩))=false;rw [HW0.out];exact he
   clear he
   go_wp2_with fail
   refine HINC.out.mono ?_
   rintro e w4 ⟨y,va,vf,rfl,hy,hoy,hb4⟩
   obtain ⟨ja,jc,hva⟩:=own_form hoy.1
   obtain ⟨fa,fc,hvf⟩:=own_form hoy.2
   dsimp only at hva hvf
   subst hva
   subst hvf
   have HY:=hid hy
   obtain ⟨X5,hX5⟩:∃ X,X=w4.alloc (.cells #[.int .u8 y.op,.int .i64 y.typ,.int .i64 y.a,.int .i64 y.b,.int .i64 y.n,.slice ja y.args.length jc,.slice fa y.frm.length fc] 57):=⟨_,rfl⟩
   have hk5:X5.heap[w4.heap.size]?=some (.cells #[.int .u8 y.op,.int .i64 y.typ,.int .i64 y.a,.int .i64 y.b,.int .i64 y.n,.slice ja y.args.length jc,.slice fa y.frm.length fc] 57 (0,0)):=by rw [hX5];exact alloc_new _ _
   have HX5:=hid hX5
   have hb5:Below w4.heap.size w4 X5:=by rw [hX5];exact alloc_below _ _
   have HS5:=hid ((HS.out.on hb4).on hb5)
   have HOY:=hid (show OwnIr w.heap.size X5 (⟨y,.slice ja y.args.length jc,.slice fa y.frm.length fc⟩:Ir) from ((hoy.below hb5).base HS.out.below.size))
   have v0:=cells_of hk5 0 _ rfl;have v1:=cells_of hk5 1 _ rfl;have v2:=cells_of hk5 2 _ rfl;have v3:=cells_of hk5 3 _ rfl;have v4:=cells_of hk5 4 _ rfl;have v5:=cells_of hk5 5 _ rfl;have v6:=cells_of hk5 6 _ rfl
   clear hX5 hk5 hb5 hb4 hoy hy HINC HS
   cases hi:insP l (reg+k) with
   | none =>
    have HN:Hid (oo=none):=by show _=_;rw [HP.out,blockP,if_neg (by rw [HE.out];decide),hi];rfl
    clear hi HP HY HOY v0 v1 v2 v3 v4 v5 v6
    go_upto_region 10 with fail
    rw [← HX5.out]
    clear k0 k1 HX5
    have hbx:=HS5.out.box
    have m0:=cells_of hbx 0 _ rfl;have m1:=cells_of hbx 1 _ rfl;have m2:=cells_of hbx 2 _ rfl;have m3:=cells_of hbx 3 _ rfl;have m4:=cells_of hbx 4 _ rfl
    have hre:=HS5.out.res
    have y0:=cells_of hre 0 _ rfl;have y1:=cells_of hre 1 _ rfl;have y2:=cells_of hre 2 _ rfl;have y3:=cells_of hre 3 _ rfl;have y4:=cells_of hre 4 _ rfl
    have hz:=(ShTB.cells_heap hre).2
    have z0:=hz 0;have z1:=hz 1;have z2:=hz 2;have z3:=hz 3;have z4:=hz 4
    obtain ⟨W3,hW3,hk3,ho3,hb3⟩:=HS5.out.done
    exact q75x1
   | some z =>
    have hyz:=HY.out z hi
    subst hyz
    have HP2:Hid (oo=preB (rows.map Ir.x++[y]) (blockP M (reg+((k+1:Nat):Int)))):=by
     show _=_
     rw [HP.out,block_step HE.out hi,preB_pre,show reg+(k:Int)+1=reg+((k+1:Nat):Int) by omega]
    have hbx:=HS5.out.box
    have m0:=cells_of hbx 0 _ rfl
    have hb6:=alloc_below X5 (.cells #[.int .u8 y.op,.int .i64 y.typ,.int .i64 y.a,.int .i64 y.b,.int .i64 y.n,.slice ja y.args.length jc,.slice fa y.frm.length fc] 57)
    have HS6:=hid (HS5.out.on hb6)
    have HOY6:=hid (HOY.out.below hb6)
    have HONE:Hid (∀ z∈[(⟨y,.slice ja y.args.length jc,.slice fa y.frm.length fc⟩:Ir)],∀ u∈irV z,u.oneCell'=true):=fun z hz=>by rw [List.mem_singleton.1 hz];exact oneIr _ ⟨_,_,_,rfl⟩ ⟨_,_,_,rfl⟩
    have HCELL:Hid (0 < [(⟨y,.slice ja y.args.length jc,.slice fa y.frm.length fc⟩:Ir)].length→∃ b off,some (⟨X5.heap.size,0,none⟩:Addr)=some ⟨b,off,none⟩∧∀ j u,(rowOf irV [(⟨y,.slice ja y.args.length jc,.slice fa y.frm.length fc⟩:Ir)])[j]?=some u→(X5.alloc (.cells #[.int .u8 y.op,.int .i64 y.typ,.int .i64 y.a,.int .i64 y.b,.int .i64 y.n,.slice ja y.args.length jc,.slice fa y.frm.length fc] 57)).cell? ⟨b,off+j,none⟩=some u):=fun _=>⟨_,0,rfl,row_new _ _ _ _ irV rfl⟩
    have HLN1:Hid (rows.length+1≤30000):=by show _≤_;have:=HRL.out;have:=HLT.out;have:=HLL.out;omega
    have hsz:w.heap.size≤(X5.alloc (.cells #[.int .u8 y.op,.int .i64 y.typ,.int .i64 y.a,.int .i64 y.b,.int .i64 y.n,.slice ja y.args.length jc,.slice fa y.frm.length fc] 57)).heap.size:=HS6.out.below.size
    clear hi HP HY HOY hbx hb6 k0 k1
    go_upto_region 10 with fail
    rw [← HX5.out]
    clear HX5
    go_wp2_with (at_builtin;refine wpList_append_row irW (by decide) infoIns Tryz.underlying50 zeroIns rfl (.tmp 55) (.tmp 57) rfl w.heap.size (.slice i1 rows.length i2) rfl rows.length (rowOf irV rows) HS6.out.own.1 (some ⟨X5.heap.size,0,none⟩) 1 1 [(⟨y,.slice ja y.args.length jc,.slice fa y.frm.length fc⟩:Ir)] rfl rfl HONE.out (fun h=>by cases h) HCELL.out (by have:=HLN1.out;unfold maxLen;simp;omega) (by have:=HLN1.out;simp;omega) hsz ?_)
    intro v7 w7 hown7 hgr7
    obtain ⟨g1,g2⟩:=HS6.out.grow HOY6.out hown7 hgr7
    obtain ⟨p7,c7,h70⟩:=own_form hown7
    subst h70
    have HS7:=hid g2
    have zz:=(ShTB.cells_heap g1).2 0
    have yy:=cells_of g1 0 _ rfl
    clear hown7 hgr7 g1 g2 hsz m0 v0 v1 v2 v3 v4 v5 v6 HS5 HS6 HOY6 HONE HCELL
    go_wp2
    go_roundg (gk - 1)
    case measure=>have:=HK.out;have:=HLT.out;omega
    case rel=>exact ⟨k+1,_,rows++[(⟨y,.slice ja y.args.length jc,.slice fa y.frm.length fc⟩:Ir)],by have:=HK.out;have:=HLT.out;omega,HLT.out,rfl,by have:=HRL.out;simp;omega,by rw [HP2.out,HM.out,List.map_append];rfl,HS7.out⟩
end Go.Proofs.YtbebficgcemkoaaGreatDoor.RdL
