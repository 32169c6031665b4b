/- Walk over fescueref07.Program. -/
import Derived.Test.YtbebficgcemkoaaGreatDoorYRgZToRgY
import Derived.Test.YtbebficgcemkoaaGreatDoorYRdFToRdWs
set_option maxRecDepth 100000
set_option maxHeartbeats 16000000
namespace Go.Proofs.YtbebficgcemkoaaGreatDoor.RdW
open Go.RowKit Go.Lib TyM TyP ShM ShP ShB IntO SetP LxM LxJ LxY RwO RdM RdN RdV RdA RdO RdB RdK RdP Aft Fresh RcP RcV RcW RdL RgZ
open TyW (Row rowVals rowVals_length)
open LxP (LinesAt StrsAt)
open RcR (row_new)

def PP (o:Option (List Ty × List Ln)):Option Px:=match o with
 | none=>none
 | some (ts,M)=>(funcsP ts M).map fun fs=>⟨ts,fs⟩
theorem q84x1 {P:Prop} (h:P:=by
 go_wp2_with fail
 obtain ⟨wo,hwo⟩:∃ wo:World,wo=wr:=⟨wr,rfl⟩
 subst hwo
 go_loopg [5] (L.length+1 - k) (fun gk i wr=>∃ (j:Nat) (vf:Value) (rf:List Fr),j+gk=L.length+1∧j≤L.length∧i=.int .i64 (j:Int)∧rf.length≤j∧oo=(preG (rf.map Fr.fx) (funcsP (rt.map Prod.fst) (L.drop j))).map (fun fs=>(⟨rt.map Prod.fst,fs⟩:Px))∧PgS w (.slice i1 rt.length i2) rt vf rf wr)
 case atStart=>exact ⟨k,_,[],by have:=HKL.out;omega,HKL.out,rfl,Nat.zero_le _,by rw [List.map_nil,preG_nil,HN.out];rfl,HS.out⟩
 case round =>
  clear HS HN
  obtain ⟨j,vf,rf,hk,hjl,rfl,hrl,hp,hs⟩:=hrel
  have HK2:=hid hk
  have HRF:=hid hrl
  have HP2:=hid hp
  have HS:=hid hs
  obtain ⟨f1,f2,hvf⟩:=own_form hs.fns.1
  subst hvf
  clear hk hp hs hrl
  by_cases hjt:j < L.length
  rotate_left
  ·have HN2:Hid (oo=some ⟨rt.map Prod.fst,rf.map Fr.fx⟩):=by show _=_;rw [HP2.out,List.drop_of_length_le (by omega),funcs_nil];simp [preG]
   have hli:¬ ((j:Int) < L.length):=by omega
   clear hjt hjl HP2
   have hbx:=HS.out.box
   have m0:=cells_of hbx 0 _ rfl;have m1:=cells_of hbx 1 _ rfl
   have hre:=HS.out.res
   have y0:=cells_of hre 0 _ rfl;have y1:=cells_of hre 1 _ rfl
   have hz:=(ShTB.cells_heap hre).2
   have z0:=hz 0;have z1:=hz 1
   obtain ⟨W3,hW3,hk3,ht3,hf3,hb3⟩:=HS.out.done
   have HW3:=hid hW3
   have HT3:=hid ht3
   have HF3:=hid hf3
   have HB3:=hid hb3
   have x0:=cells_of hk3 0 _ rfl;have x1:=cells_of hk3 1 _ rfl
   clear hre hz hW3 hk3 ht3 hf3 hb3 hbx
   go_wp2
   (try simp only [Exit.inBlock,Exit.then])
   rw [← HW3.out]
   refine bodyPost_ret (by simp [results,Tryz.results57,go_sem,x0,x1];try rfl) rfl ?_
   exact ⟨_,⟨rt.map Prod.fst,rf.map Fr.fx⟩,by rw [HN2.out];rfl,(fun z h=>by rw [HN2.out] at h;cases h;rfl),pr_new HT3.out HF3.out (by have:=HRL.out;have:=HKL.out;have:=HLL.out;omega),HB3.out⟩
  have hmem:L.getD j []∈L:=by rw [List.getD_eq_getElem?_getD,List.getElem?_eq_getElem hjt];exact List.getElem_mem _
  have hd:L.drop j=L.getD j [] :: L.drop (j+1):=by rw [List.drop_eq_getElem_cons hjt,List.getD_eq_getElem?_getD,List.getElem?_eq_getElem hjt];rfl
  have hl1:=(HF.out.2 _ hmem).1
  have hfi:=(HF.out.2 _ hmem).2
  obtain ⟨b,off,b2,o2,c2,hao,k0,k1,hsl⟩:=line_at (HL.out.below HS.out.below) j hjt hl1
  cases hao
  have hki:(j:Int) < L.length:=by omega
  have hkp:(0:Int)≤(j:Int):=by omega
  have HLT2:=hid hjt
  rw [hd] at HP2
  have hl0:0 < (L.getD j []).length:=hl1
  generalize L.getD j []=l at *
  have HW1:Hid (l.length=2→∃ s1,s1=l.getD 1 ⟨#[]⟩∧s1.size≤9223372036854775807∧wr.cell? ⟨b2,o2+1,none⟩=some (.string s1)):=fun h2=>by
   obtain ⟨b3,o3,hb3,hc3⟩:=word_at hsl 1 (by omega)
   cases hb3
   exact ⟨_,rfl,(hfi.2 _ (by rw [List.getD_eq_getElem?_getD,List.getElem?_eq_getElem (by omega:1 < l.length)];exact List.getElem_mem _)).2,hc3⟩
  clear hmem hd hl1 hfi hsl hjt hjl
  by_cases h2:l.length=2
  rotate_left
  ·have HN2:Hid (oo=none):=by show _=_;rw [HP2.out,funcs_cons,if_neg (fun h=>h2 h.1)];rfl
   have hn2:((l.length:Int) != 2)=true:=by simp;omega
   clear h2 HP2 HW1
   have hbx:=HS.out.box
   have m0:=cells_of hbx 0 _ rfl;have m1:=cells_of hbx 1 _ rfl
   have hre:=HS.out.res
   have y0:=cells_of hre 0 _ rfl;have y1:=cells_of hre 1 _ rfl
   have hz:=(ShTB.cells_heap hre).2
   have z0:=hz 0;have z1:=hz 1
   obtain ⟨W3,hW3,hk3,ht3,hf3,hb3⟩:=HS.out.done
   have HW3:=hid hW3
   have HT3:=hid ht3
   have HF3:=hid hf3
   have HB3:=hid hb3
   have x0:=cells_of hk3 0 _ rfl;have x1:=cells_of hk3 1 _ rfl
   clear hre hz hW3 hk3 ht3 hf3 hb3 hbx
   go_wp2
   (try simp only [Exit.inBlock,Exit.then])
   rw [← HW3.out]
   refine bodyPost_ret (by simp [results,Tryz.results57,go_sem,x0,x1];try rfl) rfl ?_
   exact ⟨_,⟨rt.map Prod.fst,rf.map Fr.fx⟩,by rw [HN2.out];rfl,(fun z h=>by rw [HN2.out] at h;cases h),pr_new HT3.out HF3.out (by have:=HRL.out;have:=HKL.out;have:=HLL.out;omega),HB3.out⟩
  have hn2:((l.length:Int) != 2)=false:=by simp;omega
  have HL2:Hid (∀ x,x=l→x.length=2):=fun x hx=>by rw [hx];exact h2
  obtain ⟨s1,hs1,hz1,d1⟩:=HW1.out h2
  have hli1:(1:Int) < l.length:=by omega
  have hln1:1 < l.length:=by omega
  clear h2 HW1
  generalize hw0:l.getD 0 ⟨#[]⟩=s0 at *
  have HW0:=hid hw0
  clear hw0
  have e0:=str_eq s0 [102,117,110,99]
  by_cases hbk:un s0=[102,117,110,99]
  rotate_left
  ·have HN2:Hid (oo=none):=by show _=_;rw [HP2.out,funcs_cons,if_neg (fun h=>hbk (by have h3:un (l.getD 0 ⟨#[]⟩)=_:=h.2;rw [HW0.out] at h3;exact h3))];rfl
   rw [decide_eq_false hbk] at e0
   generalize l.length=ln at *
   clear hbk HP2 HL2 d1 hs1 hz1
   have hbx:=HS.out.box
   have m0:=cells_of hbx 0 _ rfl;have m1:=cells_of hbx 1 _ rfl
   have hre:=HS.out.res
   have y0:=cells_of hre 0 _ rfl;have y1:=cells_of hre 1 _ rfl
   have hz:=(ShTB.cells_heap hre).2
   have z0:=hz 0;have z1:=hz 1
   obtain ⟨W3,hW3,hk3,ht3,hf3,hb3⟩:=HS.out.done
   have HW3:=hid hW3
   have HT3:=hid ht3
   have HF3:=hid hf3
   have HB3:=hid hb3
   have x0:=cells_of hk3 0 _ rfl;have x1:=cells_of hk3 1 _ rfl
   clear hre hz hW3 hk3 ht3 hf3 hb3 hbx
   go_wp2
   (try simp only [Exit.inBlock,Exit.then])
   rw [← HW3.out]
   refine bodyPost_ret (by simp [results,Tryz.results57,go_sem,x0,x1];try rfl) rfl ?_
   exact ⟨_,⟨rt.map Prod.fst,rf.map Fr.fx⟩,by rw [HN2.out];rfl,(fun z h=>by rw [HN2.out] at h;cases h),pr_new HT3.out HF3.out (by have:=HRL.out;have:=HKL.out;have:=HLL.out;omega),HB3.out⟩
  have HWL:Hid (w0 l=[102,117,110,99]):=by show un (l.getD 0 ⟨#[]⟩)=_;rw [HW0.out];exact hbk
  rw [decide_eq_true hbk] at e0
  obtain ⟨vd,hvd,hrd'⟩:=RcB.lines_drop (HL.out.below HS.out.below) (k:=j+1) HLT2.out
  have hrd:∀ wx:World,(Instr.slice 44 (.slice (some ⟨b,off,none⟩) L.length cap) (some (.int .i64 ((j:Int)+1))) none none).run Tryz.prog wx=.ok vd wx:=fun wx=>by
   rw [show (j:Int)+1=((j+1:Nat):Int) by omega]
   exact hrd' wx
  have HVD:=hid hvd
  obtain ⟨sd,cd,rfl,_⟩:=hvd.slice
  have HFM:=hid (HF.out.drop (j+1))
  have HDL:Hid ((L.drop (j+1)).length≤L.length - (j+1)):=by show _≤_;rw [List.length_drop];omega
  have HDR:Hid (∀ m,(L.drop (j+1)).drop m=L.drop (j+(1+m))):=fun m=>by rw [List.drop_drop];congr 1;omega
  have hwk:IntKind.i64.wrap ((j:Int)+1)=(j:Int)+1:=IntWalk.i64_in _ (by have:=HLL.out;have:=HLT2.out;omega)
  have HMK:=hid (markR_calls s1 hz1 116 wr)
  rw [show (((116:UInt8).toNat:Nat):Int)=116 from rfl] at HMK
  unfold MkR at HMK
  have hng:=mk_nonneg s1 116
  have HFA : Hid (∀ sg em, mkN s1 116 = (sg, em) → funcsP (rt.map Prod.fst) (l :: L.drop (j + 1)) = if em = 0 then (match blocksP (L.drop (j + 1)) (regOf (rt.map Prod.fst) sg) with
        | none=>none
        | some (bs,n)=>preG [⟨sg,bs⟩] (funcsP (rt.map Prod.fst) ((L.drop (j+1)).drop n))) else none):=fun sg em hm=>funcs_at _ _ (HL2.out l rfl) HWL.out (by rw [← hs1];exact hm)
  clear hbk HW0 hs1 hz1 hvd hrd'
  generalize L.drop (j+1)=M at *
  generalize mkN s1 116=pm at *
  obtain ⟨sg,em⟩:=pm
  simp only at HMK hng
  obtain ⟨sn,rfl⟩:∃ n:Nat,sg=n:=⟨sg.toNat,by omega⟩
  have HFB:=hid (HFA.out _ _ rfl)
  generalize l.length=ln at *
  have HTL:Hid (rt.length≤100000):=by show _≤_;have:=HRL.out;have:=HLL.out;have:=HKL.out;omega
  clear hng HFA HWL HL2
  go_wp2_with fail
  refine HMK.out.mono ?_
  rintro e w4 ⟨rfl,hb4⟩
  have HS4:=hid (HS.out.on hb4)
  have HFC:Hid (∀ wx,Below w4.heap.size w4 wx→Calls Tryz.prog 114 #[.agg #[.slice i1 rt.length i2,.slice f1 rf.length f2],.int .i64 (sn:Int),.slice sd M.length cd] wx (RdF.FunR sn (blocksP M (regOf (rt.map Prod.fst) sn)) wx)):=fun wx hx=>RdF.func_calls (rt.map Prod.fst) _ f1 rf.length f2 sn M _ wx ((HS4.out.ty.tys HTL.out).below hx) (fun t ht=>by
   obtain ⟨x,hx,rfl⟩:=List.mem_map.1 ht
   exact HPL.out x hx) ((HVD.out.below hb4).below hx) HFM.out
  have q0:=later (cells_of HS4.out.box 0 _ rfl);have q1:=later (cells_of HS4.out.box 1 _ rfl)
  have HHW:=hid (Aft.refl w4).drew
  clear hb4 HMK HS k0 k1 d1 e0 hn2 hli1 hln1 HVD hki hkp hl0
  unfold RdF.FunR at HFC
  go_upto_region 13 with fail
  refine wp_region_noPanic ?_
  refine wp_region_Z (S:=(fun w'=>Aft w4 w')) (Z:=[6]) (by kernel_rfl) ?_ (fun hHeld=>?_)
  ·(try dsimp only)
   (exact HHW.out)
  refine zT 0 rfl ?_
  refine zP 1 rfl ?_
  refine zP 2 rfl ?_
  refine zP 3 rfl ?_
  refine zP 4 rfl ?_
  refine zP 5 rfl ?_
  try simp only [Act.put,List.setIfInBounds_toArray,List.set_cons_zero,List.set_cons_succ]
  refine wpAnyZ_ready (rs:=[6,11]) (by kernel_rfl) (by simp) ?_
  refine AllReadyZ.last (o:=⟨_,_,_,_,_,_⟩) rfl (by kernel_rfl) (fun K hK=>?_) ?_
  ·go_simp
   refine (HFC.out w4.drew HHW.out).mono ?_
   rintro e w5 ⟨vb,bs,fn,rfl,hob,hb5,hqm⟩
   obtain ⟨ja,jc,rfl⟩:∃ a c,vb=.slice a bs.length c:=own_form hob.1
   have HB5:=hid (Aft.go HHW.out hb5)
   have HK5:=hid hb5
   have HOB:=hid (show OwnBlks w.heap.size w5 _ bs from hob.base (Nat.le_trans HS4.out.below.size (Aft.size HHW.out)))
   have HQM:=hid hqm
   clear hob hb5 hqm
   refine hK.out _ _ ?_
   clear hK K
   refine zQ 7 rfl ?_
   refine zQ 8 rfl ?_
   refine zQ 9 rfl ?_
   refine zQ 10 rfl ?_
   refine zL 11 rfl (fun K hK=>?_)
   go_simp
   refine hK.out _ _ ?_
   clear hK K
   refine zL 12 rfl (fun K hK=>?_)
   go_simp
   refine hK.out _ _ ?_
   clear hK K
   refine zL 13 rfl (fun K hK=>?_)
   go_simp
   refine hK.out _ _ ?_
   clear hK K
   refine zL 14 rfl (fun K hK=>?_)
   go_simp
   refine hK.out _ _ ?_
   clear hK K
   try simp only [Act.put,List.setIfInBounds_toArray,List.set_cons_zero,List.set_cons_succ]
   refine wpAnyZ_done (by kernel_rfl) ?_ _
   refine NoPanic.normal ?_
   obtain ⟨X6,hX6⟩:∃ X,X=w5.alloc (.cells #[.int .i64 (sn:Int),.slice ja bs.length jc] 49):=⟨_,rfl⟩
   rw [← hX6]
   obtain ⟨b10,hb10⟩:∃ b,b=w5.heap.size:=⟨_,rfl⟩
   rw [← hb10]
   have hk6:X6.heap[b10]?=some (.cells #[.int .i64 (sn:Int),.slice ja bs.length jc] 49 (0,0)):=by rw [hX6,hb10];exact alloc_new _ _
   have HS6:Hid (PgS w (.slice i1 rt.length i2) rt (.slice f1 rf.length f2) rf X6):=by show PgS _ _ _ _ _ _;rw [hX6];exact (HS4.out.on HB5.out).on (alloc_below _ _)
   have HO6:Hid (OwnBlks w.heap.size X6 (.slice ja bs.length jc) bs):=by show OwnBlks _ _ _ _;rw [hX6];exact HOB.out.below (alloc_below _ _)
   clear hX6 hb10 HOB HK5 HB5 HS4 HHW HFC q0 q1
   by_cases hem:em=0
   rotate_left
   ·have HN2:Hid (oo=none):=by show _=_;rw [HP2.out,HFB.out,if_neg hem];rfl
    have hne:(em != 0)=true:=by simpa using hem
    clear hem HFB HQM HO6 hk6
    have hbx:=HS6.out.box
    have m0:=cells_of hbx 0 _ rfl;have m1:=cells_of hbx 1 _ rfl
    have hre:=HS6.out.res
    have y0:=cells_of hre 0 _ rfl;have y1:=cells_of hre 1 _ rfl
    have hz:=(ShTB.cells_heap hre).2
    have z0:=hz 0;have z1:=hz 1
    obtain ⟨W3,hW3,hk3,ht3,hf3,hb3⟩:=HS6.out.done
    have HW3:=hid hW3
    have HT3:=hid ht3
    have HF3:=hid hf3
    have HB3:=hid hb3
    have x0:=cells_of hk3 0 _ rfl;have x1:=cells_of hk3 1 _ rfl
    clear hre hz hW3 hk3 ht3 hf3 hb3 hbx
    go_wp2
    (try simp only [Exit.inBlock,Exit.then])
    rw [← HW3.out]
    refine bodyPost_ret (by simp [results,Tryz.results57,go_sem,x0,x1];try rfl) rfl ?_
    exact ⟨_,⟨rt.map Prod.fst,rf.map Fr.fx⟩,by rw [HN2.out];rfl,(fun z h=>by rw [HN2.out] at h;cases h),pr_new HT3.out HF3.out (by have:=HRL.out;have:=HKL.out;have:=HLL.out;omega),HB3.out⟩
   subst hem
   cases hbp:blocksP M (regOf (rt.map Prod.fst) sn) with
   | none =>
    have HN2:Hid (oo=none):=by show _=_;rw [HP2.out,HFB.out,if_pos rfl,hbp];rfl
    clear hbp HFB HQM HO6 hk6
    have hbx:=HS6.out.box
    have m0:=cells_of hbx 0 _ rfl;have m1:=cells_of hbx 1 _ rfl
    have hre:=HS6.out.res
    have y0:=cells_of hre 0 _ rfl;have y1:=cells_of hre 1 _ rfl
    have hz:=(ShTB.cells_heap hre).2
    have z0:=hz 0;have z1:=hz 1
    obtain ⟨W3,hW3,hk3,ht3,hf3,hb3⟩:=HS6.out.done
    have HW3:=hid hW3
    have HT3:=hid ht3
    have HF3:=hid hf3
    have HB3:=hid hb3
    have x0:=cells_of hk3 0 _ rfl;have x1:=cells_of hk3 1 _ rfl
    clear hre hz hW3 hk3 ht3 hf3 hb3 hbx
    go_wp2
    (try simp only [Exit.inBlock,Exit.then])
    rw [← HW3.out]
    refine bodyPost_ret (by simp [results,Tryz.results57,go_sem,x0,x1];try rfl) rfl ?_
    exact ⟨_,⟨rt.map Prod.fst,rf.map Fr.fx⟩,by rw [HN2.out];rfl,(fun z h=>by rw [HN2.out] at h;cases h),pr_new HT3.out HF3.out (by have:=HRL.out;have:=HKL.out;have:=HLL.out;omega),HB3.out⟩
   | some r =>
    obtain ⟨z,m⟩:=r
    obtain ⟨hz,hfm⟩:=HQM.out z m hbp
    subst hz
    subst hfm
    have HML:Hid (m≤M.length):=(blocks_len _ (Nat.le_refl _) hbp).2
    have HP3:Hid (oo=(preG (rf.map Fr.fx++[Fr.fx (⟨(sn:Int),.slice ja bs.length jc,bs⟩:Fr)]) (funcsP (rt.map Prod.fst) (L.drop (j+(1+m))))).map (fun fs=>(⟨rt.map Prod.fst,fs⟩:Px))):=by
     show _=_
     rw [HP2.out,HFB.out,if_pos rfl,hbp]
     simp only
     rw [preG_pre,HDR.out m]
     rfl
    have HJM:Hid (j+(1+m)≤L.length):=by show _≤_;have:=HML.out;have:=HDL.out;have:=HLT2.out;omega
    have hwm:IntKind.i64.wrap ((j:Int)+1+(m:Int))=((j+(1+m):Nat):Int):=by rw [IntWalk.i64_in _ (by have:=HJM.out;have:=HLL.out;omega)];omega
    have v0:=cells_of hk6 0 _ rfl;have v1:=cells_of hk6 1 _ rfl
    have hbx:=HS6.out.box
    have m1:=cells_of hbx 1 _ rfl
    have hb7:=alloc_below X6 (.cells #[.int .i64 (sn:Int),.slice ja bs.length jc] 49)
    have HS7:=hid (HS6.out.on hb7)
    have HO7:=hid (HO6.out.below hb7)
    have HONE:Hid (∀ z∈[(⟨(sn:Int),.slice ja bs.length jc,bs⟩:Fr)],∀ u∈frV z,u.oneCell'=true):=fun z hz=>by rw [List.mem_singleton.1 hz];exact oneFr _ ⟨_,_,_,rfl⟩
    have HCELL:Hid (0 < [(⟨(sn:Int),.slice ja bs.length jc,bs⟩:Fr)].length→∃ b off,some (⟨X6.heap.size,0,none⟩:Addr)=some ⟨b,off,none⟩∧∀ j u,(rowOf frV [(⟨(sn:Int),.slice ja bs.length jc,bs⟩:Fr)])[j]?=some u→(X6.alloc (.cells #[.int .i64 (sn:Int),.slice ja bs.length jc] 49)).cell? ⟨b,off+j,none⟩=some u):=fun _=>⟨_,0,rfl,row_new _ _ _ _ frV rfl⟩
    have HLN1:Hid (rf.length+1≤30000):=by show _≤_;have:=HRF.out;have:=HLT2.out;have:=HLL.out;omega
    have hsz:w.heap.size≤(X6.alloc (.cells #[.int .i64 (sn:Int),.slice ja bs.length jc] 49)).heap.size:=HS7.out.below.size
    clear hbp HFB HQM HP2 HO6 hbx hb7 HS6
    go_wp2_with (at_builtin;refine wpList_append_row frW (by decide) infoFn Tryz.underlying26 zeroFn rfl (.tmp 95) (.tmp 97) rfl w.heap.size (.slice f1 rf.length f2) rfl rf.length (rowOf frV rf) HS7.out.fns.1 (some ⟨X6.heap.size,0,none⟩) 1 1 [(⟨(sn:Int),.slice ja bs.length jc,bs⟩:Fr)] rfl rfl HONE.out (fun h=>by cases h) HCELL.out (by have:=HLN1.out;unfold maxLen;simp;omega) (by have:=HLN1.out;simp;omega) hsz ?_)
    intro v8 w8 hown8 hgr8
    obtain ⟨g1,g2⟩:=HS7.out.growF (y:=(⟨(sn:Int),.slice ja bs.length jc,bs⟩:Fr)) HO7.out hown8 hgr8
    obtain ⟨p8,c8,h80⟩:=own_form hown8
    subst h80
    have HS8:=hid g2
    have zz:=(ShTB.cells_heap g1).2 1
    have yy:=cells_of g1 1 _ rfl
    clear hown8 hgr8 g1 g2 hsz m1 v0 v1 HS7 HO7 HONE HCELL hk6
    go_wp2
    go_roundg (gk - (1+m))
    case measure=>have:=HK2.out;have:=HJM.out;omega
    case rel=>exact ⟨j+(1+m),_,rf++[(⟨(sn:Int),.slice ja bs.length jc,bs⟩:Fr)],by have:=HK2.out;have:=HJM.out;omega,HJM.out,congrArg (Value.int .i64) (by omega),by have:=HRF.out;simp;omega,by rw [HP3.out,List.map_append];rfl,HS8.out⟩
  refine AllReadyZ.cons (o:=⟨_,_,_,_,_,_⟩) rfl (fun K hK=>?_) ?_
  ·go_simp
   refine hK.out _ _ ?_ (fun hHeld=>?_)
   ·(try dsimp only)
    exact HHW.out.alloc _
   clear hK K
   refine zL 6 rfl (fun K hK=>?_)
   go_simp
   refine (HFC.out (w4.drew.alloc (.cells #[.int .i64 0,.slice none 0 0] 49)) (HHW.out.alloc _)).mono ?_
   rintro e w5 ⟨vb,bs,fn,rfl,hob,hb5,hqm⟩
   obtain ⟨ja,jc,rfl⟩:∃ a c,vb=.slice a bs.length c:=own_form hob.1
   have HB5:=hid (Aft.go (HHW.out.alloc _) hb5)
   have HK5:=hid hb5
   have HOB:=hid (show OwnBlks w.heap.size w5 _ bs from hob.base (Nat.le_trans HS4.out.below.size (Aft.size (HHW.out.alloc _))))
   have HQM:=hid hqm
   clear hob hb5 hqm
   refine hK.out _ _ ?_
   clear hK K
   refine zQ 7 rfl ?_
   refine zQ 8 rfl ?_
   refine zQ 9 rfl ?_
   refine zQ 10 rfl ?_
   refine zL 12 rfl (fun K hK=>?_)
   have HN5:Hid (w5.heap[w4.heap.size]?=some (.cells #[.int .i64 0,.slice none 0 0] 49 (0,0))):=(HK5.out.block _ (by simp)).trans (by have:=alloc_new w4.drew (.cells #[.int .i64 0,.slice none 0 0] 49);rwa [World.size_drew] at this)
   have hn5:=HN5.out
   have y0:=cells_of hn5 0 _ rfl;have y1:=cells_of hn5 1 _ rfl
   have z0:=(ShTB.cells_heap hn5).2 0;have z1:=(ShTB.cells_heap hn5).2 1
   clear hn5
   go_simp
   refine hK.out _ _ ?_
   clear hK K
   refine zL 13 rfl (fun K hK=>?_)
   go_simp
   refine hK.out _ _ ?_
   clear hK K
   refine zL 14 rfl (fun K hK=>?_)
   go_simp
   refine hK.out _ _ ?_
   clear hK K
   try simp only [Act.put,List.setIfInBounds_toArray,List.set_cons_zero,List.set_cons_succ]
   refine wpAnyZ_done (by kernel_rfl) ?_ _
   refine NoPanic.normal ?_
   obtain ⟨X6,hX6,hk6,ho6,hs6⟩:=HS4.out.stored HB5.out (Nat.le_refl _) HN5.out HOB.out (sn:Int)
   rw [← hX6]
   obtain ⟨b10,hb10⟩:∃ b,b=w4.heap.size:=⟨_,rfl⟩
   rw [← hb10] at hk6 ⊢
   have HS6:=hid hs6
   have HO6:=hid ho6
   clear hX6 hb10 hs6 ho6 HOB HK5 HB5 HS4 HHW HFC q0 q1 HN5 y0 y1 z0 z1
   by_cases hem:em=0
   rotate_left
   ·have HN2:Hid (oo=none):=by show _=_;rw [HP2.out,HFB.out,if_neg hem];rfl
    have hne:(em != 0)=true:=by simpa using hem
    clear hem HFB HQM HO6 hk6
    have hbx:=HS6.out.box
    have m0:=cells_of hbx 0 _ rfl;have m1:=cells_of hbx 1 _ rfl
    have hre:=HS6.out.res
    have y0:=cells_of hre 0 _ rfl;have y1:=cells_of hre 1 _ rfl
    have hz:=(ShTB.cells_heap hre).2
    have z0:=hz 0;have z1:=hz 1
    obtain ⟨W3,hW3,hk3,ht3,hf3,hb3⟩:=HS6.out.done
    have HW3:=hid hW3
    have HT3:=hid ht3
    have HF3:=hid hf3
    have HB3:=hid hb3
    have x0:=cells_of hk3 0 _ rfl;have x1:=cells_of hk3 1 _ rfl
    clear hre hz hW3 hk3 ht3 hf3 hb3 hbx
    go_wp2
    (try simp only [Exit.inBlock,Exit.then])
    rw [← HW3.out]
    refine bodyPost_ret (by simp [results,Tryz.results57,go_sem,x0,x1];try rfl) rfl ?_
    exact ⟨_,⟨rt.map Prod.fst,rf.map Fr.fx⟩,by rw [HN2.out];rfl,(fun z h=>by rw [HN2.out] at h;cases h),pr_new HT3.out HF3.out (by have:=HRL.out;have:=HKL.out;have:=HLL.out;omega),HB3.out⟩
   subst hem
   cases hbp:blocksP M (regOf (rt.map Prod.fst) sn) with
   | none =>
    have HN2:Hid (oo=none):=by show _=_;rw [HP2.out,HFB.out,if_pos rfl,hbp];rfl
    clear hbp HFB HQM HO6 hk6
    have hbx:=HS6.out.box
    have m0:=cells_of hbx 0 _ rfl;have m1:=cells_of hbx 1 _ rfl
    have hre:=HS6.out.res
    have y0:=cells_of hre 0 _ rfl;have y1:=cells_of hre 1 _ rfl
    have hz:=(ShTB.cells_heap hre).2
    have z0:=hz 0;have z1:=hz 1
    obtain ⟨W3,hW3,hk3,ht3,hf3,hb3⟩:=HS6.out.done
    have HW3:=hid hW3
    have HT3:=hid ht3
    have HF3:=hid hf3
    have HB3:=hid hb3
    have x0:=cells_of hk3 0 _ rfl;have x1:=cells_of hk3 1 _ rfl
    clear hre hz hW3 hk3 ht3 hf3 hb3 hbx
    go_wp2
    (try simp only [Exit.inBlock,Exit.then])
    rw [← HW3.out]
    refine bodyPost_ret (by simp [results,Tryz.results57,go_sem,x0,x1];try rfl) rfl ?_
    exact ⟨_,⟨rt.map Prod.fst,rf.map Fr.fx⟩,by rw [HN2.out];rfl,(fun z h=>by rw [HN2.out] at h;cases h),pr_new HT3.out HF3.out (by have:=HRL.out;have:=HKL.out;have:=HLL.out;omega),HB3.out⟩
   | some r =>
    obtain ⟨z,m⟩:=r
    obtain ⟨hz,hfm⟩:=HQM.out z m hbp
    subst hz
    subst hfm
    have HML:Hid (m≤M.length):=(blocks_len _ (Nat.le_refl _) hbp).2
    have HP3:Hid (oo=(preG (rf.map Fr.fx++[Fr.fx (⟨(sn:Int),.slice ja bs.length jc,bs⟩:Fr)]) (funcsP (rt.map Prod.fst) (L.drop (j+(1+m))))).map (fun fs=>(⟨rt.map Prod.fst,fs⟩:Px))):=by
     show _=_
     rw [HP2.out,HFB.out,if_pos rfl,hbp]
     simp only
     rw [preG_pre,HDR.out m]
     rfl
    have HJM:Hid (j+(1+m)≤L.length):=by show _≤_;have:=HML.out;have:=HDL.out;have:=HLT2.out;omega
    have hwm:IntKind.i64.wrap ((j:Int)+1+(m:Int))=((j+(1+m):Nat):Int):=by rw [IntWalk.i64_in _ (by have:=HJM.out;have:=HLL.out;omega)];omega
    have v0:=cells_of hk6 0 _ rfl;have v1:=cells_of hk6 1 _ rfl
    have hbx:=HS6.out.box
    have m1:=cells_of hbx 1 _ rfl
    have hb7:=alloc_below X6 (.cells #[.int .i64 (sn:Int),.slice ja bs.length jc] 49)
    have HS7:=hid (HS6.out.on hb7)
    have HO7:=hid (HO6.out.below hb7)
    have HONE:Hid (∀ z∈[(⟨(sn:Int),.slice ja bs.length jc,bs⟩:Fr)],∀ u∈frV z,u.oneCell'=true):=fun z hz=>by rw [List.mem_singleton.1 hz];exact oneFr _ ⟨_,_,_,rfl⟩
    have HCELL:Hid (0 < [(⟨(sn:Int),.slice ja bs.length jc,bs⟩:Fr)].length→∃ b off,some (⟨X6.heap.size,0,none⟩:Addr)=some ⟨b,off,none⟩∧∀ j u,(rowOf frV [(⟨(sn:Int),.slice ja bs.length jc,bs⟩:Fr)])[j]?=some u→(X6.alloc (.cells #[.int .i64 (sn:Int),.slice ja bs.length jc] 49)).cell? ⟨b,off+j,none⟩=some u):=fun _=>⟨_,0,rfl,row_new _ _ _ _ frV rfl⟩
    have HLN1:Hid (rf.length+1≤30000):=by show _≤_;have:=HRF.out;have:=HLT2.out;have:=HLL.out;omega
    have hsz:w.heap.size≤(X6.alloc (.cells #[.int .i64 (sn:Int),.slice ja bs.length jc] 49)).heap.size:=HS7.out.below.size
    clear hbp HFB HQM HP2 HO6 hbx hb7 HS6
    go_wp2_with (at_builtin;refine wpList_append_row frW (by decide) infoFn Tryz.underlying26 zeroFn rfl (.tmp 95) (.tmp 97) rfl w.heap.size (.slice f1 rf.length f2) rfl rf.length (rowOf frV rf) HS7.out.fns.1 (some ⟨X6.heap.size,0,none⟩) 1 1 [(⟨(sn:Int),.slice ja bs.length jc,bs⟩:Fr)] rfl rfl HONE.out (fun h=>by cases h) HCELL.out (by have:=HLN1.out;unfold maxLen;simp;omega) (by have:=HLN1.out;simp;omega) hsz ?_)
    intro v8 w8 hown8 hgr8
    obtain ⟨g1,g2⟩:=HS7.out.growF (y:=(⟨(sn:Int),.slice ja bs.length jc,bs⟩:Fr)) HO7.out hown8 hgr8
    obtain ⟨p8,c8,h80⟩:=own_form hown8
    subst h80
    have HS8:=hid g2
    have zz:=(ShTB.cells_heap g1).2 1
    have yy:=cells_of g1 1 _ rfl
    clear hown8 hgr8 g1 g2 hsz m1 v0 v1 HS7 HO7 HONE HCELL hk6
    go_wp2
    go_roundg (gk - (1+m))
    case measure=>have:=HK2.out;have:=HJM.out;omega
    case rel=>exact ⟨j+(1+m),_,rf++[(⟨(sn:Int),.slice ja bs.length jc,bs⟩:Fr)],by have:=HK2.out;have:=HJM.out;omega,HJM.out,congrArg (Value.int .i64) (by omega),by have:=HRF.out;simp;omega,by rw [HP3.out,List.map_append];rfl,HS8.out⟩
  exact AllReadyZ.nil):P:=h
theorem programR_calls (L:List Ln) (lv:Value) (w:World) (hl:LinesAt w lv L) (hf:FineL L) :
  Calls Tryz.prog 57 #[lv] w (PrgR (programP L) w):=by
 obtain ⟨W,hW⟩:∃ W,W=(w.alloc (.cells #[.slice none 0 0,.slice none 0 0] 28)).alloc (.cells #[.slice none 0 0,.slice none 0 0] 28):=⟨_,rfl⟩
 have hs0:=PgS.start w
 rw [← hW] at hs0
 have HW:=hid hW
 have HS0:=hid hs0
 have HL:=hid hl
 have HF:=hid hf
 obtain ⟨ao,cap,rfl,_⟩:=hl.slice
 have HP0:Hid (programP L=PP (preT (([]:List Row).map Prod.fst) (typesP (L.drop 0)))):=by
  show _=_
  rw [List.map_nil,preT_nil,List.drop_zero]
  rfl
 generalize hoo:programP L=oo at *
 clear hl hf hW hs0 hoo
 go_enter Tryz.func57,Tryz.ntmps57
 go_wp2_with fail
 rw [← HW.out]
 clear HW
 go_loopg [5] (L.length+1) (fun gk i wr=>∃ (k:Nat) (vt:Value) (rt:List Row),k+gk=L.length+1∧k≤L.length∧i=.int .i64 (k:Int)∧rt.length=k∧(∀ x∈rt,x.1.parts.length≤20000)∧oo=PP (preT (rt.map Prod.fst) (typesP (L.drop k)))∧PgS w vt rt (.slice none 0 0) [] wr)
 case atStart=>exact ⟨0,_,[],by omega,Nat.zero_le _,rfl,rfl,(fun x h=>by cases h),HP0.out,HS0.out⟩
 case round =>
  clear HS0 HP0
  obtain ⟨k,vt,rt,hk,hkl,rfl,hrl,hpl,hp,hs⟩:=hrel
  have HK:=hid hk
  have HRL:=hid hrl
  have HPL:=hid hpl
  have HP:=hid hp
  have HS:=hid hs
  obtain ⟨i1,i2,hvt⟩:=own_form hs.ty.1
  subst hvt
  clear hk hp hs hrl hpl
  have HLL:=hid HF.out.1
  by_cases hlt:k < L.length
  rotate_left
  ·have HN:Hid (oo=PP (some (rt.map Prod.fst,L.drop k))):=by show _=_;rw [HP.out,List.drop_of_length_le (by omega)];simp [typesP,preT]
   have HKL:=hid hkl
   have hli:¬ ((k:Int) < L.length):=by omega
   clear hlt hkl HP
   exact q84x1
  have hmem:L.getD k []∈L:=by rw [List.getD_eq_getElem?_getD,List.getElem?_eq_getElem hlt];exact List.getElem_mem _
  have hd:L.drop k=L.getD k [] :: L.drop (k+1):=by rw [List.drop_eq_getElem_cons hlt,List.getD_eq_getElem?_getD,List.getElem?_eq_getElem hlt];rfl
  have hl1:=(HF.out.2 _ hmem).1
  have hfi:=(HF.out.2 _ hmem).2
  obtain ⟨b,off,b2,o2,c2,rfl,k0,k1,hsl⟩:=line_at (HL.out.below HS.out.below) k hlt hl1
  have hki:(k:Int) < L.length:=by omega
  have hkp:(0:Int)≤(k:Int):=by omega
  have HLT:=hid hlt
  have HDK:=hid hd
  have HKL:=hid hkl
  rw [hd] at HP
  obtain ⟨v1,hv1,hr1'⟩:=strs_drop hsl (k:=1) hl1
  have hr1:∀ wx:World,(Instr.slice 74 (.slice (some ⟨b2,o2,none⟩) (L.getD k []).length c2) (some (.int .i64 1)) none none).run Tryz.prog wx=.ok v1 wx:=hr1'
  have HKC:=hid (kind_calls ((L.getD k []).drop 1) v1 wr hv1 (by have:=hfi.1;rw [List.length_drop];omega) (fun x hx=>(hfi.2 x (List.mem_of_mem_drop hx)).2))
  obtain ⟨s1,c1,rfl,_⟩:=hv1.slice
  have HFI:=hid hfi.1
  have hwk:IntKind.i64.wrap ((k:Int)+1)=(k:Int)+1:=IntWalk.i64_in _ (by have:=HLL.out;omega)
  generalize L.getD k []=l at *
  have hl0:0 < l.length:=hl1
  have HDL:Hid ((l.drop 1).length≤64):=by show _≤_;have:=HFI.out;rw [List.length_drop];omega
  unfold KindR at HKC
  generalize hM:L.drop (k+1)=M at *
  have HM:=hid hM
  have HKS:Hid (w0 l=[116,121,112,101]→typesP (l :: M)=match kindP (l.drop 1) with
    | none=>none
    | some t=>preT [t] (typesP M)):=fun h=>by
   cases hq:kindP (l.drop 1) with
   | none=>rw [typesP,if_pos h,hq]
   | some t=>exact types_step h hq
  have HTP:Hid (∀ t,kindP (l.drop 1)=some t→t.parts.length≤20000):=fun t ht=>by
   have:=RcX.typ_parts ht
   have:=HDL.out
   omega
  clear hM hmem hd hsl hfi hl1 hlt hkl hr1' hv1
  generalize l.drop 1=m at *
  generalize hw0:l.getD 0 ⟨#[]⟩=s0 at *
  have HW0:=hid hw0
  clear hw0
  have e0:=str_eq s0 [116,121,112,101]
  by_cases hbk:un s0=[116,121,112,101]
  rotate_left
  ·have HN:Hid (oo=PP (some (rt.map Prod.fst,L.drop k))):=by
    show _=_
    rw [HP.out,HDK.out,typesP,if_neg (by show ¬ un (l.getD 0 ⟨#[]⟩)=_;rw [HW0.out];exact hbk)]
    simp [preT]
   rw [decide_eq_false hbk] at e0
   clear hbk HP HKC
   exact q84x1
  rw [decide_eq_true hbk] at e0
  have HTS:=hid (HKS.out (by show un (l.getD 0 ⟨#[]⟩)=_;rw [HW0.out];exact hbk))
  clear hbk HKS HW0
  generalize l.length=ln at *
  go_wp2_with fail
  refine HKC.out.mono ?_
  rintro e w4 ⟨y,pv,rfl,hy,hpp,hb4⟩
  obtain ⟨pa,pc,hpv,_⟩:=ints_slice hpp.1
  subst hpv
  obtain ⟨X5,hX5⟩:∃ X,X=w4.alloc (.cells #[.int .u8 y.kind,.int .i64 y.elem,.int .i64 y.many,.slice pa y.parts.length pc] 77):=⟨_,rfl⟩
  have hk5:X5.heap[w4.heap.size]?=some (.cells #[.int .u8 y.kind,.int .i64 y.elem,.int .i64 y.many,.slice pa y.parts.length pc] 77 (0,0)):=by rw [hX5];exact alloc_new _ _
  have HX5:=hid hX5
  have hb5:Below w4.heap.size w4 X5:=by rw [hX5];exact alloc_below _ _
  have HS5:=hid ((HS.out.on hb4).on hb5)
  have HOY:=hid ((hpp.below hb5).base HS.out.below.size)
  have v0:=cells_of hk5 0 _ rfl;have v1:=cells_of hk5 1 _ rfl;have v2:=cells_of hk5 2 _ rfl;have v3:=cells_of hk5 3 _ rfl
  have HY:=hid hy
  clear hX5 hk5 hb5 hb4 hpp hy HKC HS hr1
  cases hi:kindP m with
  | none =>
   have HN:Hid (oo=none):=by show _=_;rw [HP.out,HTS.out,hi];rfl
   clear hi HP HY HOY v0 v1 v2 v3
   go_upto_region 5 with fail
   rw [← HX5.out]
   clear k0 k1 HX5
   have hbx:=HS5.out.box
   have m0:=cells_of hbx 0 _ rfl;have m1:=cells_of hbx 1 _ rfl
   have hre:=HS5.out.res
   have y0:=cells_of hre 0 _ rfl;have y1:=cells_of hre 1 _ rfl
   have hz:=(ShTB.cells_heap hre).2
   have z0:=hz 0;have z1:=hz 1
   obtain ⟨W3,hW3,hk3,ht3,hf3,hb3⟩:=HS5.out.done
   have HW3:=hid hW3
   have HT3:=hid ht3
   have HF3:=hid hf3
   have HB3:=hid hb3
   have x0:=cells_of hk3 0 _ rfl;have x1:=cells_of hk3 1 _ rfl
   clear hre hz hW3 hk3 ht3 hf3 hb3 hbx
   go_wp2
   (try simp only [Exit.inBlock,Exit.then])
   rw [← HW3.out]
   refine bodyPost_ret (by simp [results,Tryz.results57,go_sem,x0,x1];try rfl) rfl ?_
   exact ⟨_,⟨rt.map Prod.fst,[].map Fr.fx⟩,by rw [HN.out];rfl,(fun z h=>by rw [HN.out] at h;cases h),pr_new HT3.out HF3.out (by have:=HRL.out;have:=HLL.out;omega),HB3.out⟩
  | some t =>
   have hty:=HY.out t hi
   subst hty
   have HP2:Hid (oo=PP (preT (rt.map Prod.fst++[y]) (typesP M))):=by show _=_;rw [HP.out,HTS.out,hi,preT_pre]
   have HTP2:=hid (HTP.out y hi)
   have hbx:=HS5.out.box
   have m0:=cells_of hbx 0 _ rfl
   have hb6:=alloc_below X5 (.cells #[.int .u8 y.kind,.int .i64 y.elem,.int .i64 y.many,.slice pa y.parts.length pc] 77)
   have HS6:=hid (HS5.out.on hb6)
   have HOY6:=hid (HOY.out.below hb6)
   have HONE:Hid (∀ z∈[((y,.slice pa y.parts.length pc):Row)],∀ u∈tyRow z,u.oneCell'=true):=fun z hz=>by rw [List.mem_singleton.1 hz];exact oneTy _ ⟨_,_,_,rfl⟩
   have HCELL:Hid (0 < [((y,.slice pa y.parts.length pc):Row)].length→∃ b off,some (⟨X5.heap.size,0,none⟩:Addr)=some ⟨b,off,none⟩∧∀ j u,(rowOf tyRow [((y,.slice pa y.parts.length pc):Row)])[j]?=some u→(X5.alloc (.cells #[.int .u8 y.kind,.int .i64 y.elem,.int .i64 y.many,.slice pa y.parts.length pc] 77)).cell? ⟨b,off+j,none⟩=some u):=fun _=>⟨_,0,rfl,row_new _ _ _ _ tyRow rfl⟩
   have HLN1:Hid (rt.length+1≤30000):=by show _≤_;have:=HRL.out;have:=HLT.out;have:=HLL.out;omega
   have hsz:w.heap.size≤(X5.alloc (.cells #[.int .u8 y.kind,.int .i64 y.elem,.int .i64 y.many,.slice pa y.parts.length pc] 77)).heap.size:=HS6.out.below.size
   clear hi HP HY HOY hbx hb6 k0 k1 e0 hkp hki HTP HTS
   go_upto_region 5 with fail
   rw [← HX5.out]
   clear HX5
   go_wp2_with (at_builtin;refine wpList_append_row tyW (by decide) infoTy Tryz.underlying25 zeroTy rfl (.tmp 39) (.tmp 41) rfl w.heap.size (.slice i1 rt.length i2) rfl rt.length (rowOf tyRow rt) HS6.out.ty.1 (some ⟨X5.heap.size,0,none⟩) 1 1 [((y,.slice pa y.parts.length pc):Row)] rfl rfl HONE.out (fun h=>by cases h) HCELL.out (by have:=HLN1.out;unfold maxLen;simp;omega) (by have:=HLN1.out;simp;omega) hsz ?_)
   intro v7 w7 hown7 hgr7
   obtain ⟨g1,g2⟩:=HS6.out.growT HOY6.out hown7 hgr7
   obtain ⟨p7,c7,h70⟩:=own_form hown7
   subst h70
   have HS7:=hid g2
   have zz:=(ShTB.cells_heap g1).2 0
   have yy:=cells_of g1 0 _ rfl
   clear hown7 hgr7 g1 g2 hsz m0 v0 v1 v2 v3 HS5 HS6 HOY6 HONE HCELL
   go_wp2
   go_roundg (gk - 1)
   case measure=>have:=HK.out;have:=HLT.out;omega
   case rel=>exact ⟨k+1,_,rt++[((y,.slice pa y.parts.length pc):Row)],by have:=HK.out;have:=HLT.out;omega,HLT.out,congrArg (Value.int .i64) (by omega),by have:=HRL.out;simp;omega,(fun x hx=>by
    rcases List.mem_append.1 hx with hx | hx
    ·exact HPL.out x hx
    ·rw [List.mem_singleton.1 hx];exact HTP2.out),by rw [HP2.out,HM.out,List.map_append];rfl,HS7.out⟩
end Go.Proofs.YtbebficgcemkoaaGreatDoor.RdW
