/- Walk over fescueref07.function. Walk over fescueref07.kind. What fescueref07.Program keeps in memory; its contract. -/
import Derived.Test.YtbebficgcemkoaaGreatDoorYRdHEToRdL
import Derived.Test.YtbebficgcemkoaaGreatDoorYRcRToRcX
import Derived.Test.YtbebficgcemkoaaGreatDoorYRgZToRgY
import Derived.Test.YtbebficgcemkoaaGreatDoorYRdAToWkA
import Derived.Deep.RegionHeld3
set_option maxRecDepth 100000
set_option maxHeartbeats 16000000
namespace Go.Proofs.YtbebficgcemkoaaGreatDoor.RdF
open Go.RowKit Go.Lib TyM TyP ShM ShP ShB IntO SetP LxM LxJ LxY RwO RdM RdN RdV RdA RdO RdB RdP RdL Aft Fresh
open LxP (LinesAt StrsAt)
open RcB (lines_drop)
open RcS (preF preF_nil preF_pre blocks_step)
open RcR (row_new)
open RcP (Fine FineL)

structure FnS (w:World) (sig:Int) (vb:Value) (bs:List Br) (wr:World):Prop where
 res:wr.heap[w.heap.size+1]?=some (.cells #[.int .i64 0,.slice none 0 0] 49 (0,0))
 box:wr.heap[w.heap.size+1+1]?=some (.cells #[.int .i64 sig,vb] 49 (0,0))
 own:OwnBlks w.heap.size wr vb bs
 below:Below w.heap.size w wr
 size:w.heap.size+3≤wr.heap.size
theorem FnS.on {w:World} {sig:Int} {vb:Value} {bs:List Br} {wr w' : World} (h:FnS w sig vb bs wr) (hb:Below wr.heap.size wr w'):FnS w sig vb bs w' :=
 ⟨(hb.block _ (by have:=h.size;omega)).trans h.res,(hb.block _ (by have:=h.size;omega)).trans h.box,h.own.below hb,h.below.trans (hb.mono (by have:=h.size;omega)),Nat.le_trans h.size hb.size⟩
theorem FnS.start (w:World) (sig:Int) (o:Obj):FnS w sig (.slice none 0 0) [] (((w.alloc o).alloc (.cells #[.int .i64 0,.slice none 0 0] 49)).alloc (.cells #[.int .i64 sig,.slice none 0 0] 49)):=by
 have h1:=alloc_new (w.alloc o) (.cells #[.int .i64 0,.slice none 0 0] 49)
 have h2:=alloc_new ((w.alloc o).alloc (.cells #[.int .i64 0,.slice none 0 0] 49)) (.cells #[.int .i64 sig,.slice none 0 0] 49)
 rw [World.size_alloc] at h1
 rw [World.size_alloc,World.size_alloc] at h2
 exact ⟨alloc_old h1 _,h2,⟨World.ownsRow_nil _ _ _ _,by simp⟩,((alloc_below _ _).alloc (by simp) _).alloc (by simp only [World.size_alloc];omega) _,by simp only [World.size_alloc];omega⟩
theorem FnS.grow {w:World} {sig:Int} {vb v5:Value} {bs:List Br} {w4 w5:World} {y:Br} (h:FnS w sig vb bs w4) (hy:OwnIns w.heap.size w4 y.vi y.rows) (h5:w5.ownsRow w.heap.size 54 5 v5 (bs.length+1) (rowOf brV bs++rowOf brV [y])) (hg:w4.grownBy w5 vb.ownBlock) :
  w5.heap[w.heap.size+1+1]?=some (.cells #[.int .i64 sig,vb] 49 (0,0))∧FnS w sig v5 (bs++[y]) (w5.setCell ⟨w.heap.size+1+1,1,none⟩ v5):=by
 have g1:=ShTB.blks_step h.own hy h5 hg
 have hs:=h.size
 have hlo:=h.own.1.lt
 have hne:∀ n cs,w4.heap[n]?=some (.cells cs 49 (0,0))→vb.ownBlock≠some n:=fun n cs hn e=>by
  obtain ⟨cs2,fr2,h3⟩:=own_typed h.own.1 _ e
  rw [hn] at h3
  simp at h3
 have hres:w5.heap[w.heap.size+1]?=_:=(hg.block _ (Array.getElem?_eq_some_iff.1 h.res).1 (fun e=>hne _ _ h.res e.symm)).trans h.res
 have hbox:w5.heap[w.heap.size+1+1]?=_:=(hg.block _ (Array.getElem?_eq_some_iff.1 h.box).1 (fun e=>hne _ _ h.box e.symm)).trans h.box
 exact ⟨hbox,⟨(Below.heap_setCell _ _ _ _ (by simp)).trans hres,(ShTB.set_heap' (i:=1) v5 hbox).trans (by simp),g1.other (ShTB.grown_set w5 _ 1 v5) (ShTB.typed_at hbox) (by decide) (by decide) (by decide),(h.below.grown hg (by omega) (fun k hk=>(hlo k hk).1)).setCell (p:=⟨w.heap.size+1+1,1,none⟩) (Nat.le_trans (Nat.le_succ _) (Nat.le_succ _)) v5,by rw [ShTB.size_set];have:=hg.size;omega⟩⟩
theorem FnS.done {w:World} {sig:Int} {vb:Value} {bs:List Br} {wr:World} (h:FnS w sig vb bs wr) :
  ∃ W3,W3=((wr.setCell ⟨w.heap.size+1,0,none⟩ (.int .i64 sig)).setCell ⟨w.heap.size+1,1,none⟩ vb) ∧
   W3.heap[w.heap.size+1]?=some (.cells #[.int .i64 sig,vb] 49 (0,0))∧OwnBlks w.heap.size W3 vb bs∧Below w.heap.size w W3:=by
 obtain ⟨W3,h1,h2,h3,h4⟩:=set2_world wr (w.heap.size+1) 49 _ _ (.int .i64 sig) vb h.res
 have hb:=h4 0 wr (Below.refl _ _) (Nat.zero_le _)
 have hgr:wr.grownBy W3 (some (w.heap.size+1)):=⟨hb.os,hb.tape,hb.output,hb.size,fun k _ hk=>h2 k (fun e=>hk (by rw [e]))⟩
 exact ⟨W3,h1,h3,h.own.other hgr (ShTB.typed_at h.res) (by decide) (by decide) (by decide),h4 _ _ h.below (by omega)⟩
def FunR (sig:Int) (o:Option (List Bx × Nat)) (w:World) (e:Ending) (w' : World):Prop :=
 ∃ (vb:Value) (bs:List Br) (n:Int),e=.returned (.tuple #[.agg #[.int .i64 sig,vb],.int .i64 n,.bool o.isSome])∧OwnBlks w.heap.size w' vb bs∧Below w.heap.size w w'∧∀ q m,o=some (q,m)→q=bs.map Br.bx∧n=(m:Nat)
theorem q62x1 {P:Prop} (h:P:=by
 clear HS0 HP0
 obtain ⟨k,q,vb,bs,hk,hkl,rfl,rfl,hqb,hbl,hp,hs⟩:=hrel
 have HK:=hid hk
 have HP:=hid hp
 have HS:=hid hs
 have HQQ:=hid hqb
 have HBL:=hid hbl
 obtain ⟨i1,i2,hvb⟩:=own_form hs.own.1
 subst hvb
 clear hk hp hs hqb hbl
 by_cases hlt:k < L.length
 rotate_left
 ·have HN:Hid (oo=some (bs.map Br.bx,k)):=by show _=_;rw [HP.out,List.drop_of_length_le (by omega),blocks_nil];simp [preF]
  have hli:¬ ((k:Int) < L.length):=by omega
  clear hlt hkl HP
  have hbx:=HS.out.box
  have m0:=cells_of hbx 0 _ rfl;have m1:=cells_of hbx 1 _ rfl
  have hre:=HS.out.res
  have y0:=cells_of hre 0 _ rfl;have y1:=cells_of hre 1 _ rfl
  have hz:=(ShTB.cells_heap hre).2
  have z0:=hz 0;have z1:=hz 1
  obtain ⟨W3,hW3,hk3,ho3,hb3⟩:=HS.out.done
  have HW3:=hid hW3
  have HO3:=hid ho3
  have HB3:=hid hb3
  have x0:=cells_of hk3 0 _ rfl;have x1:=cells_of hk3 1 _ rfl
  clear hre hz hW3 hk3 ho3 hb3 hbx
  go_wp2
  (try simp only [Exit.inBlock,Exit.then])
  rw [← HW3.out]
  refine bodyPost_ret (by simp [results,Tryz.results114,go_sem,x0,x1];try rfl) rfl ?_
  exact ⟨_,bs,(k:Nat),by rw [HN.out];rfl,HO3.out,HB3.out,fun q m h=>by rw [HN.out] at h;cases h;exact ⟨rfl,rfl⟩⟩
 have hmem:L.getD k []∈L:=by rw [List.getD_eq_getElem?_getD,List.getElem?_eq_getElem hlt];exact List.getElem_mem _
 have hd:L.drop k=L.getD k [] :: L.drop (k+1):=by rw [List.drop_eq_getElem_cons hlt,List.getD_eq_getElem?_getD,List.getElem?_eq_getElem hlt];rfl
 have hl1:=(HF.out.2 _ hmem).1
 obtain ⟨b,off,b2,o2,c2,rfl,k0,k1,_⟩:=line_at (HL.out.below HS.out.below) k hlt hl1
 have hki:(k:Int) < L.length:=by omega
 have hkp:(0:Int)≤(k:Int):=by omega
 have HLT:=hid hlt
 have HLL:=hid HF.out.1
 rw [hd] at HP
 obtain ⟨vd,hvd,hrd'⟩:=lines_drop (HL.out.below HS.out.below) (k:=k+1) hlt
 have hrd:∀ wx:World,(Instr.slice 44 (.slice (some ⟨b,off,none⟩) L.length cap) (some (.int .i64 ((k:Int)+1))) none none).run Tryz.prog wx=.ok vd wx:=fun wx=>by
  rw [show (k:Int)+1=((k+1:Nat):Int) by omega]
  exact hrd' wx
 have HBC:=hid (block_calls (L.drop (k+1)) (q:Int) vd wr hvd (HF.out.drop (k+1)) ⟨by omega,by have:=HQQ.out;have:=HF.out.1;rw [List.length_drop];omega⟩)
 obtain ⟨sd,cd,rfl,_⟩:=hvd.slice
 have HDL:Hid ((L.drop (k+1)).length≤L.length - (k+1)):=by show _≤_;rw [List.length_drop];omega
 have HDR:Hid (∀ m,(L.drop (k+1)).drop m=L.drop (k+(1+m))):=fun m=>by rw [List.drop_drop];congr 1;omega
 have hwk:IntKind.i64.wrap ((k:Int)+1)=(k:Int)+1:=IntWalk.i64_in _ (by have:=HLL.out;omega)
 generalize L.getD k []=l at *
 have hl0:0 < l.length:=hl1
 generalize L.drop (k+1)=M at *
 clear hmem hd hrd' hvd hl1 hlt hkl
 generalize hw0:l.getD 0 ⟨#[]⟩=s0 at *
 have HW0:=hid hw0
 clear hw0
 have e0:=str_eq s0 [98,108,111,99,107]
 by_cases hbk:un s0=[98,108,111,99,107]
 rotate_left
 ·have HN:Hid (oo=some (bs.map Br.bx,k)):=by
   show _=_
   rw [HP.out,blocks_cons,if_neg (by show ¬ un (l.getD 0 ⟨#[]⟩)=_;rw [HW0.out];exact hbk)]
   simp [preF]
  rw [decide_eq_false hbk] at e0
  clear hbk HP HBC
  have hbx:=HS.out.box
  have m0:=cells_of hbx 0 _ rfl;have m1:=cells_of hbx 1 _ rfl
  have hre:=HS.out.res
  have y0:=cells_of hre 0 _ rfl;have y1:=cells_of hre 1 _ rfl
  have hz:=(ShTB.cells_heap hre).2
  have z0:=hz 0;have z1:=hz 1
  obtain ⟨W3,hW3,hk3,ho3,hb3⟩:=HS.out.done
  have HW3:=hid hW3
  have HO3:=hid ho3
  have HB3:=hid hb3
  have x0:=cells_of hk3 0 _ rfl;have x1:=cells_of hk3 1 _ rfl
  clear hre hz hW3 hk3 ho3 hb3 hbx
  go_wp2
  (try simp only [Exit.inBlock,Exit.then])
  rw [← HW3.out]
  refine bodyPost_ret (by simp [results,Tryz.results114,go_sem,x0,x1];try rfl) rfl ?_
  exact ⟨_,bs,(k:Nat),by rw [HN.out];rfl,HO3.out,HB3.out,fun q m h=>by rw [HN.out] at h;cases h;exact ⟨rfl,rfl⟩⟩
 rw [decide_eq_true hbk] at e0
 have HWL:Hid (w0 l=[98,108,111,99,107]):=by show un (l.getD 0 ⟨#[]⟩)=_;rw [HW0.out];exact hbk
 clear hbk
 by_cases hone:l.length=1
 rotate_left
 ·have HN:Hid (oo=none):=by
   show _=_
   rw [HP.out,blocks_cons,if_pos HWL.out,if_neg hone]
   rfl
  have hn1:((l.length:Int) != 1)=true:=by simp;omega
  clear hone HP HBC
  have hbx:=HS.out.box
  have m0:=cells_of hbx 0 _ rfl;have m1:=cells_of hbx 1 _ rfl
  have hre:=HS.out.res
  have y0:=cells_of hre 0 _ rfl;have y1:=cells_of hre 1 _ rfl
  have hz:=(ShTB.cells_heap hre).2
  have z0:=hz 0;have z1:=hz 1
  obtain ⟨W3,hW3,hk3,ho3,hb3⟩:=HS.out.done
  have HW3:=hid hW3
  have HO3:=hid ho3
  have HB3:=hid hb3
  have x0:=cells_of hk3 0 _ rfl;have x1:=cells_of hk3 1 _ rfl
  clear hre hz hW3 hk3 ho3 hb3 hbx
  go_wp2
  (try simp only [Exit.inBlock,Exit.then])
  rw [← HW3.out]
  refine bodyPost_ret (by simp [results,Tryz.results114,go_sem,x0,x1];try rfl) rfl ?_
  exact ⟨_,bs,0,by rw [HN.out];rfl,HO3.out,HB3.out,fun q m h=>by rw [HN.out] at h;cases h⟩
 have hn1:((l.length:Int) != 1)=false:=by simp;omega
 have HONE1:Hid (∀ x,x=l→x.length=1):=fun x hx=>by rw [hx];exact hone
 clear hone
 generalize l.length=ln at *
 go_wp2_with fail
 refine HBC.out.mono ?_
 rintro e w4 ⟨x,vi,rows,n,rfl,hoi,hb4,hqm⟩
 obtain ⟨ia,ic,hvi⟩:=own_form hoi.1
 subst hvi
 have HQM:=hid hqm
 obtain ⟨X5,hX5⟩:∃ X,X=w4.alloc (.cells #[.slice ia rows.length ic,.int .u8 x.kind,.int .i64 x.a,.int .i64 x.to,.int .i64 x.els] 54):=⟨_,rfl⟩
 have hk5:X5.heap[w4.heap.size]?=some (.cells #[.slice ia rows.length ic,.int .u8 x.kind,.int .i64 x.a,.int .i64 x.to,.int .i64 x.els] 54 (0,0)):=by rw [hX5];exact alloc_new _ _
 have HX5:=hid hX5
 have hb5:Below w4.heap.size w4 X5:=by rw [hX5];exact alloc_below _ _
 have HS5:=hid ((HS.out.on hb4).on hb5)
 have HK5:=hid hk5
 have HLO:=hid HS.out.own.1.lt
 have HSZ0:=hid HS.out.size
 have HSZ4:=hid hb4.size
 have HOY:=hid (show OwnIns w.heap.size X5 (.slice ia rows.length ic) rows from ((hoi.below hb5).base HS.out.below.size))
 have v0:=cells_of hk5 0 _ rfl;have v1:=cells_of hk5 1 _ rfl;have v2:=cells_of hk5 2 _ rfl;have v3:=cells_of hk5 3 _ rfl;have v4:=cells_of hk5 4 _ rfl
 clear hX5 hk5 hb5 hb4 hoi hqm HBC HS hrd
 cases hi:blockP M (q:Int) with
 | none =>
  have HN:Hid (oo=none):=by
   show _=_
   rw [HP.out,blocks_cons,if_pos HWL.out,if_pos (HONE1.out l rfl),hi]
   rfl
  clear hi HP HQM HOY v0 v1 v2 v3 v4
  go_upto_region 10 with fail
  rw [← HX5.out]
  clear k0 k1 HX5
  have hbx:=HS5.out.box
  have m0:=cells_of hbx 0 _ rfl;have m1:=cells_of hbx 1 _ rfl
  have hre:=HS5.out.res
  have y0:=cells_of hre 0 _ rfl;have y1:=cells_of hre 1 _ rfl
  have hz:=(ShTB.cells_heap hre).2
  have z0:=hz 0;have z1:=hz 1
  obtain ⟨W3,hW3,hk3,ho3,hb3⟩:=HS5.out.done
  have HW3:=hid hW3
  have HO3:=hid ho3
  have HB3:=hid hb3
  have x0:=cells_of hk3 0 _ rfl;have x1:=cells_of hk3 1 _ rfl
  clear hre hz hW3 hk3 ho3 hb3 hbx
  go_wp2
  (try simp only [Exit.inBlock,Exit.then])
  rw [← HW3.out]
  refine bodyPost_ret (by simp [results,Tryz.results114,go_sem,x0,x1];try rfl) rfl ?_
  exact ⟨_,bs,0,by rw [HN.out];rfl,HO3.out,HB3.out,fun q m h=>by rw [HN.out] at h;cases h⟩
 | some r =>
  obtain ⟨z,m⟩:=r
  obtain ⟨hz,hnm⟩:=HQM.out z m hi
  subst hz
  subst hnm
  obtain ⟨hmn0,hml⟩:=block_len hi
  have hmn:m=rows.length+1:=by simpa using hmn0
  clear hmn0
  have HMN:=hid hmn
  have HP2:Hid (oo=preF (bs.map Br.bx++[Br.bx (⟨x,.slice ia rows.length ic,rows⟩:Br)]) (k+(1+m)) (blocksP (L.drop (k+(1+m))) ((q+rows.length:Nat):Int))):=by
   show _=_
   rw [HP.out,blocks_step HWL.out (HONE1.out l rfl) hi,preF_pre,HDR.out m]
   simp only [List.length_map]
   rfl
  have HKM:Hid (k+(1+m)≤L.length):=by show _≤_;have:=HDL.out;have:=HLT.out;omega
  have hbx:=HS5.out.box
  have m1:=cells_of hbx 1 _ rfl
  have hb6:=alloc_below X5 (.cells #[.slice ia rows.length ic,.int .u8 x.kind,.int .i64 x.a,.int .i64 x.to,.int .i64 x.els] 54)
  have HS6:=hid (HS5.out.on hb6)
  have HOY6:=hid (HOY.out.below hb6)
  have HONE:Hid (∀ z∈[(⟨x,.slice ia rows.length ic,rows⟩:Br)],∀ u∈brV z,u.oneCell'=true):=fun z hz=>by rw [List.mem_singleton.1 hz];exact oneBr _ ⟨_,_,_,rfl⟩
  have HCELL:Hid (0 < [(⟨x,.slice ia rows.length ic,rows⟩:Br)].length→∃ b off,some (⟨X5.heap.size,0,none⟩:Addr)=some ⟨b,off,none⟩∧∀ j u,(rowOf brV [(⟨x,.slice ia rows.length ic,rows⟩:Br)])[j]?=some u→(X5.alloc (.cells #[.slice ia rows.length ic,.int .u8 x.kind,.int .i64 x.a,.int .i64 x.to,.int .i64 x.els] 54)).cell? ⟨b,off+j,none⟩=some u):=fun _=>⟨_,0,rfl,row_new _ _ _ _ brV rfl⟩
  have HLN1:Hid (bs.length+1≤30000):=by show _≤_;have:=HBL.out;have:=HLT.out;have:=HLL.out;omega
  have hsz:w.heap.size≤(X5.alloc (.cells #[.slice ia rows.length ic,.int .u8 x.kind,.int .i64 x.a,.int .i64 x.to,.int .i64 x.els] 54)).heap.size:=HS6.out.below.size
  have hwq:IntKind.i64.wrap ((q:Int)+(rows.length:Int))=((q+rows.length:Nat):Int):=by rw [IntWalk.i64_in _ (by have:=HQQ.out;have:=HKM.out;have:=HLL.out;have:=HMN.out;omega)];omega
  have hwm:IntKind.i64.wrap ((k:Int)+1+(m:Int))=((k+(1+m):Nat):Int):=by rw [IntWalk.i64_in _ (by have:=HKM.out;have:=HLL.out;omega)];omega
  clear hi HP HOY hbx hb6 k0 k1 hmn hml hkp hki e0 hn1
  go_upto_region 10 with fail
  rw [← HX5.out]
  clear HX5
  go_wp2_with (at_builtin;refine wpList_append_row brW (by decide) infoBlk Tryz.underlying47 zeroBlk rfl (.tmp 63) (.tmp 65) rfl w.heap.size (.slice i1 bs.length i2) rfl bs.length (rowOf brV bs) HS6.out.own.1 (some ⟨X5.heap.size,0,none⟩) 1 1 [(⟨x,.slice ia rows.length ic,rows⟩:Br)] rfl rfl HONE.out (fun h=>by cases h) HCELL.out (by have:=HLN1.out;unfold maxLen;simp;omega) (by have:=HLN1.out;simp;omega) hsz ?_)
  intro v7 w7 hown7 hgr7
  obtain ⟨g1,g2⟩:=HS6.out.grow HOY6.out hown7 hgr7
  obtain ⟨p7,c7,h70⟩:=own_form hown7
  subst h70
  have HS7:=hid g2
  have zz:=(ShTB.cells_heap g1).2 1
  have yy:=cells_of g1 1 _ rfl
  have v07:w7.heap[w4.heap.size]?=some (.cells #[.slice ia rows.length ic,.int .u8 x.kind,.int .i64 x.a,.int .i64 x.to,.int .i64 x.els] 54 (0,0)):=(hgr7.block _ (Array.getElem?_eq_some_iff.1 (alloc_old HK5.out _)).1 (fun e=>by have:=(HLO.out _ e.symm).2;have:=HSZ4.out;omega)).trans (alloc_old HK5.out _)
  obtain ⟨X8,hX8⟩:∃ X,X=w7.setCell ⟨w.heap.size+1+1,1,none⟩ (.slice p7 (bs.length+1) c7):=⟨_,rfl⟩
  have HX8:=hid hX8
  have hk8:X8.heap[w4.heap.size]?=some (.cells #[.slice ia rows.length ic,.int .u8 x.kind,.int .i64 x.a,.int .i64 x.to,.int .i64 x.els] 54 (0,0)):=by
   rw [hX8]
   exact (Below.heap_setCell _ _ _ _ (by have:=HSZ0.out;have:=HSZ4.out;simp only;omega)).trans v07
  have v08:=cells_of hk8 0 _ rfl
  have HS8:Hid (FnS w sn (.slice p7 (bs.length+1) c7) (bs++[(⟨x,.slice ia rows.length ic,rows⟩:Br)]) X8):=by show FnS _ _ _ _ _;rw [hX8];exact HS7.out
  clear v07 hX8 hk8 HS7 HK5 HLO HSZ0 HSZ4
  clear hown7 hgr7 g1 g2 hsz m1 v0 v1 v2 v3 v4 HS5 HS6 HOY6 HONE HCELL
  go_upto_region 13 with fail
  rw [← HX8.out]
  clear HX8 zz yy
  go_wp2
  go_roundg (gk - (1+m))
  case measure=>have:=HK.out;have:=HKM.out;omega
  case rel=>exact ⟨k+(1+m),q+rows.length,_,bs++[(⟨x,.slice ia rows.length ic,rows⟩:Br)],by have:=HK.out;have:=HKM.out;omega,HKM.out,congrArg (Value.int .i64) (by omega),congrArg (Value.int .i64) (by omega),by have:=HQQ.out;have:=HMN.out;omega,by have:=HBL.out;simp;omega,by rw [HP2.out,List.map_append];rfl,HS8.out⟩):P:=h
theorem func_in (ts:List Ty) (vt:Value) (fa:Option Addr) (fn fc:Nat) (sn:Nat) (L:List Ln) (v:Value) (w:World) (ht:TysAt w vt ts) (hpt:∀ t∈ts,t.parts.length≤20000) (hl:LinesAt w v L) (hf:FineL L) (hin:sn < ts.length) :
  Calls Tryz.prog 114 #[.agg #[vt,.slice fa fn fc],.int .i64 (sn:Int),v] w (FunR sn (blocksP L (regOf ts sn)) w):=by
 have hrg:regOf ts (sn:Int)=((ts[sn].parts.length:Nat):Int):=by
  unfold regOf
  rw [Int.toNat_natCast]
  simp only [List.getElem?_eq_getElem hin]
 have hq0:ts[sn].parts.length≤20000:=hpt _ (List.getElem_mem hin)
 obtain ⟨ta,tc,htv⟩:=ht.slice
 subst htv
 obtain ⟨tb,to,rfl,hltb,pv,t0,t1,t2,d3,hpp⟩:=ht.at sn hin
 clear t0 t1 t2
 obtain ⟨pa,pc,hpv,_⟩:=ints_slice hpp
 subst hpv
 have hlt2:(sn:Int) < ts.length:=by omega
 have hlt3:=hin
 have hsn0:(0:Int)≤(sn:Int):=by omega
 rw [hrg]
 clear hrg hpt hpp ht
 generalize ts[sn].parts.length=q0 at *
 clear hin
 generalize ts.length=tl at *
 obtain ⟨W,hW⟩:∃ W,W=((w.alloc (.cells #[.slice (some ⟨tb,to,none⟩) tl tc,.slice fa fn fc] 28)).alloc (.cells #[.int .i64 0,.slice none 0 0] 49)).alloc (.cells #[.int .i64 (sn:Int),.slice none 0 0] 49):=⟨_,rfl⟩
 have hs0:=FnS.start w (sn:Int) (.cells #[.slice (some ⟨tb,to,none⟩) tl tc,.slice fa fn fc] 28)
 rw [← hW] at hs0
 have p0:W.cell? ⟨w.heap.size,0,none⟩=some (.slice (some ⟨tb,to,none⟩) tl tc):=by
  rw [hW]
  exact cells_of (alloc_old (alloc_old (alloc_new _ _) _) _) 0 _ rfl
 have d3W:W.cell? ⟨tb,to+sn * 4+3,none⟩=some (.slice pa q0 pc):=(hs0.below.cell (p:=⟨tb,to+sn * 4+3,none⟩) hltb).trans d3
 have HW:=hid hW
 have HS0:=hid hs0
 have HL:=hid hl
 have HF:=hid hf
 have HQB:=hid hq0
 obtain ⟨ao,cap,rfl,_⟩:=hl.slice
 obtain ⟨oo,hoo⟩:∃ o,o=blocksP L ((q0:Nat):Int):=⟨_,rfl⟩
 have HP0:Hid (oo=preF (([]:List Br).map Br.bx) 0 (blocksP (L.drop 0) ((q0:Nat):Int))):=by
  show _=_
  rw [List.map_nil,preF_nil,List.drop_zero]
  exact hoo
 rw [← hoo]
 clear hl hf hW hs0 hoo hq0
 go_enter Tryz.func114,Tryz.ntmps114
 go_upto_region 2 with fail
 rw [← HW.out]
 clear HW
 go_wp2_with fail
 clear p0 d3 d3W hlt2 hlt3 hltb hsn0
 go_loopg [10,11] (L.length+1) (fun gk r i wr=>∃ (k q:Nat) (vb:Value) (bs:List Br),k+gk=L.length+1∧k≤L.length∧r=.int .i64 (q:Int)∧i=.int .i64 (k:Int)∧q+L.length≤40000+k∧bs.length≤k∧oo=preF (bs.map Br.bx) k (blocksP (L.drop k) (q:Int))∧FnS w sn vb bs wr)
 case atStart=>exact ⟨0,q0,_,[],by omega,Nat.zero_le _,rfl,rfl,by have:=HQB.out;have:=HF.out.1;omega,Nat.zero_le _,HP0.out,HS0.out⟩
 case round =>
  exact q62x1
theorem func_out (ts:List Ty) (vt:Value) (fa:Option Addr) (fn fc:Nat) (sn:Nat) (L:List Ln) (v:Value) (w:World) (ht:TysAt w vt ts) (hl:LinesAt w v L) (hf:FineL L) (hin:¬ sn < ts.length) :
  Calls Tryz.prog 114 #[.agg #[vt,.slice fa fn fc],.int .i64 (sn:Int),v] w (FunR sn (blocksP L (regOf ts sn)) w):=by
 have hrg:regOf ts (sn:Int)=((0:Nat):Int):=by
  unfold regOf
  rw [Int.toNat_natCast,List.getElem?_eq_none (by omega)]
  rfl
 obtain ⟨ta,tc,htv⟩:=ht.slice
 subst htv
 obtain ⟨q0,hq⟩:∃ q:Nat,q=0:=⟨_,rfl⟩
 have hq0:q0≤20000:=by omega
 have hlt2:¬ (sn:Int) < ts.length:=by omega
 have HQ0:=hid hq
 rw [hrg,← hq]
 clear hrg hin ht hq
 generalize ts.length=tl at *
 obtain ⟨W,hW⟩:∃ W,W=((w.alloc (.cells #[.slice ta tl tc,.slice fa fn fc] 28)).alloc (.cells #[.int .i64 0,.slice none 0 0] 49)).alloc (.cells #[.int .i64 (sn:Int),.slice none 0 0] 49):=⟨_,rfl⟩
 have hs0:=FnS.start w (sn:Int) (.cells #[.slice ta tl tc,.slice fa fn fc] 28)
 rw [← hW] at hs0
 have p0:W.cell? ⟨w.heap.size,0,none⟩=some (.slice ta tl tc):=by
  rw [hW]
  exact cells_of (alloc_old (alloc_old (alloc_new _ _) _) _) 0 _ rfl

 have HW:=hid hW
 have HS0:=hid hs0
 have HL:=hid hl
 have HF:=hid hf
 have HQB:=hid hq0
 obtain ⟨ao,cap,rfl,_⟩:=hl.slice
 obtain ⟨oo,hoo⟩:∃ o,o=blocksP L ((q0:Nat):Int):=⟨_,rfl⟩
 have HP0:Hid (oo=preF (([]:List Br).map Br.bx) 0 (blocksP (L.drop 0) ((q0:Nat):Int))):=by
  show _=_
  rw [List.map_nil,preF_nil,List.drop_zero]
  exact hoo
 rw [← hoo]
 clear hl hf hW hs0 hoo hq0
 go_enter Tryz.func114,Tryz.ntmps114
 go_upto_region 2 with fail
 rw [← HW.out]
 clear HW
 go_wp2_with fail
 clear p0 hlt2
 go_loopg [10,11] (L.length+1) (fun gk r i wr=>∃ (k q:Nat) (vb:Value) (bs:List Br),k+gk=L.length+1∧k≤L.length∧r=.int .i64 (q:Int)∧i=.int .i64 (k:Int)∧q+L.length≤40000+k∧bs.length≤k∧oo=preF (bs.map Br.bx) k (blocksP (L.drop k) (q:Int))∧FnS w sn vb bs wr)
 case atStart=>exact ⟨0,q0,_,[],by omega,Nat.zero_le _,by rw [HQ0.out];rfl,rfl,by have:=HQB.out;have:=HF.out.1;omega,Nat.zero_le _,HP0.out,HS0.out⟩
 case round =>
  exact q62x1
theorem func_calls (ts:List Ty) (vt:Value) (fa:Option Addr) (fn fc:Nat) (sn:Nat) (L:List Ln) (v:Value) (w:World) (ht:TysAt w vt ts) (hpt:∀ t∈ts,t.parts.length≤20000) (hl:LinesAt w v L) (hf:FineL L) :
  Calls Tryz.prog 114 #[.agg #[vt,.slice fa fn fc],.int .i64 (sn:Int),v] w (FunR sn (blocksP L (regOf ts sn)) w):=by
 by_cases h:sn < ts.length
 ·exact func_in ts vt fa fn fc sn L v w ht hpt hl hf h
 ·exact func_out ts vt fa fn fc sn L v w ht hl hf h
end Go.Proofs.YtbebficgcemkoaaGreatDoor.RdF
namespace Go.Proofs.YtbebficgcemkoaaGreatDoor.RdK
open Go.RowKit Go.Lib TyM TyP ShM ShP ShB IntO SetP LxM LxJ LxY RwO RdM RdA RdO RdB RgZ Aft

def KindR (l:List ByteArray) (w:World) (e:Ending) (w' : World):Prop:=∃ (y:Ty) (pv:Value),e=.returned (.tuple #[tyV y pv,.bool (kindP l).isSome])∧(∀ z,kindP l=some z→y=z)∧PartsAt w.heap.size w' pv y.parts∧Below w.heap.size w w'
theorem q74x1 {P:Prop} (h:P:=by
 have hn:=aft_heap h2 HN.out
 have y0:=cells_of hn 0 _ rfl
 have y1:=cells_of hn 1 _ rfl
 have y2:=cells_of hn 2 _ rfl
 have y3:=cells_of hn 3 _ rfl
 have z0:=(ShTB.cells_heap hn).2 0
 have z1:=(ShTB.cells_heap hn).2 1
 have z2:=(ShTB.cells_heap hn).2 2
 have z3:=(ShTB.cells_heap hn).2 3
 obtain ⟨W3,hW3,hne3,hk3,hb3⟩:=set4_world w1 w.heap.size 77 (.int .u8 0) (.int .i64 0) (.int .i64 0) (.slice none 0 0) (.int .u8 0) (.int .i64 0) (.int .i64 0) (.slice none 0 0) hn
 have HW3:=hid hW3
 have HB3:=hid (hb3 _ _ (h2.out HBW.out) (Nat.le_refl _))
 have x0:=cells_of hk3 0 _ rfl
 have x1:=cells_of hk3 1 _ rfl
 have x2:=cells_of hk3 2 _ rfl
 have x3:=cells_of hk3 3 _ rfl
 clear hn hW3 hk3 hb3 hne3
 go_wp2
 (try simp only [Exit.inBlock,Exit.then])
 rw [← HW3.out]
 refine bodyPost_ret (by simp [results,Tryz.results112,go_sem,x0,x1,x2,x3];try rfl) rfl ?_
 exact ⟨⟨0,0,0,[]⟩,.slice none 0 0,by rw [HD.out];rfl,(fun y h=>by rw [HD.out] at h;cases h),parts_none _ _,HB3.out⟩):P:=h
theorem q74x2 {P:Prop} (h:P:=by
 rw [if_neg (by simp)] at HD
 have hn:=aft_heap h3 HN.out
 have y0:=cells_of hn 0 _ rfl
 have y1:=cells_of hn 1 _ rfl
 have y2:=cells_of hn 2 _ rfl
 have y3:=cells_of hn 3 _ rfl
 have z0:=(ShTB.cells_heap hn).2 0
 have z1:=(ShTB.cells_heap hn).2 1
 have z2:=(ShTB.cells_heap hn).2 2
 have z3:=(ShTB.cells_heap hn).2 3
 obtain ⟨W3,hW3,hne3,hk3,hb3⟩:=set4_world w2 w.heap.size 77 (.int .u8 0) (.int .i64 0) (.int .i64 0) (.slice none 0 0) (.int .u8 5) (.int .i64 q1) (.int .i64 q2) (.slice none 0 0) hn
 have HW3:=hid hW3
 have HB3:=hid (hb3 _ _ (h3.out HBW.out) (Nat.le_refl _))
 have x0:=cells_of hk3 0 _ rfl
 have x1:=cells_of hk3 1 _ rfl
 have x2:=cells_of hk3 2 _ rfl
 have x3:=cells_of hk3 3 _ rfl
 clear hn hW3 hk3 hb3 hne3
 go_wp2
 (try simp only [Exit.inBlock,Exit.then])
 rw [← HW3.out]
 refine bodyPost_ret (by simp [results,Tryz.results112,go_sem,x0,x1,x2,x3];try rfl) rfl ?_
 exact ⟨⟨5,q1,q2,[]⟩,.slice none 0 0,by rw [HD.out];rfl,(fun y h=>by rw [HD.out] at h;cases h),parts_none _ _,HB3.out⟩):P:=h
theorem q74x3 {P:Prop} (h:P:=by
 have hn:=aft_heap h2 HN.out
 have y0:=cells_of hn 0 _ rfl
 have y1:=cells_of hn 1 _ rfl
 have y2:=cells_of hn 2 _ rfl
 have y3:=cells_of hn 3 _ rfl
 have z0:=(ShTB.cells_heap hn).2 0
 have z1:=(ShTB.cells_heap hn).2 1
 have z2:=(ShTB.cells_heap hn).2 2
 have z3:=(ShTB.cells_heap hn).2 3
 obtain ⟨W3,hW3,hne3,hk3,hb3⟩:=set4_world w1 w.heap.size 77 (.int .u8 0) (.int .i64 0) (.int .i64 0) (.slice none 0 0) (.int .u8 1) (.int .i64 0) (.int .i64 0) (.slice none 0 0) hn
 have HW3:=hid hW3
 have HB3:=hid (hb3 _ _ (h2.out HBW.out) (Nat.le_refl _))
 have x0:=cells_of hk3 0 _ rfl
 have x1:=cells_of hk3 1 _ rfl
 have x2:=cells_of hk3 2 _ rfl
 have x3:=cells_of hk3 3 _ rfl
 clear hn hW3 hk3 hb3 hne3
 go_wp2
 (try simp only [Exit.inBlock,Exit.then])
 rw [← HW3.out]
 refine bodyPost_ret (by simp [results,Tryz.results112,go_sem,x0,x1,x2,x3];try rfl) rfl ?_
 exact ⟨⟨1,0,0,[]⟩,.slice none 0 0,by rw [HD.out];rfl,(fun y h=>by rw [HD.out] at h;cases h),parts_none _ _,HB3.out⟩):P:=h
theorem q74x4 {P:Prop} (h:P:=by
 generalize l.length=ln at *
 go_enter Tryz.func112,Tryz.ntmps112
 go_wp2
 (try simp only [Exit.inBlock,Exit.then])
 refine bodyPost_ret (by simp [results,Tryz.results112,go_sem];try rfl) rfl ?_
 exact ⟨⟨0,0,0,[]⟩,.slice none 0 0,by rw [HD.out];rfl,(fun y h=>by rw [HD.out] at h;cases h),parts_none _ _,by rw [← HW.out];exact HBW.out⟩):P:=h
theorem kind_calls (l:List ByteArray) (v:Value) (w:World) (hl:LxP.StrsAt w v l) (hn:l.length≤100000) (hs:∀ x∈l,x.size≤9223372036854775807) :
  Calls Tryz.prog 112 #[v] w (KindR l w):=by
 obtain ⟨W,hW⟩:∃ W,W=w.alloc (.cells #[.int .u8 0,.int .i64 0,.int .i64 0,.slice none 0 0] 77):=⟨_,rfl⟩
 have HBW:Hid (Below w.heap.size w W):=by show Below _ _ _;rw [hW];exact alloc_below _ _
 have HN:Hid (W.heap[w.heap.size]?=some (.cells #[.int .u8 0,.int .i64 0,.int .i64 0,.slice none 0 0] 77 (0,0))):=by show _=_;rw [hW];exact alloc_new _ _
 have HSZ:Hid (w.heap.size < W.heap.size):=by show _ < _;rw [hW,World.size_alloc];omega
 have HW:=hid hW
 have HL:=hid (hl.below HBW.out)
 have HLW:=hid hl
 have HS:=hid hs
 obtain ⟨ao,cap,rfl,hll⟩:=hl.slice
 have HD:Hid (kindP l=if l.length=0 then none
  else if un (l.getD 0 ⟨#[]⟩)=[97,114,114,97,121] then
   (if l.length=3∧(mkN (l.getD 1 ⟨#[]⟩) 116).2=0∧(NumG.sm (un (l.getD 2 ⟨#[]⟩)) 999).2=0 then some ⟨5,(mkN (l.getD 1 ⟨#[]⟩) 116).1,(NumG.sm (un (l.getD 2 ⟨#[]⟩)) 999).1,[]⟩ else none)
  else match marksO 116 (l.drop 1) with
   | none=>none
   | some r =>
    if un (l.getD 0 ⟨#[]⟩)=[105,110,116] then (if r.length=0 then some ⟨1,0,0,[]⟩ else none)
    else if un (l.getD 0 ⟨#[]⟩)=[112,116,114] then (if r.length=1 then some ⟨2,r.getD 0 0,0,[]⟩ else none)
    else if un (l.getD 0 ⟨#[]⟩)=[102,110] then (if 1≤r.length then some ⟨3,r.getD 0 0,0,r.drop 1⟩ else none)
    else if un (l.getD 0 ⟨#[]⟩)=[115,116,114,117,99,116] then some ⟨4,0,0,r⟩
    else none):=rfl
 clear hl hW hs
 by_cases hl0:l.length=0
 ·rw [if_pos hl0] at HD
  have hz:((l.length:Int) == 0)=true:=by rw [hl0];rfl
  clear hl0 HL HLW HS HN HSZ
  exact q74x4
 rw [if_neg hl0] at HD
 have h1:1≤l.length:=by omega
 have hz:((l.length:Int) == 0)=false:=by rw [beq_eq_false_iff_ne];omega
 obtain ⟨b,off,rfl,c0⟩:=word_at HLW.out 0 h1
 rw [Nat.add_zero] at c0
 have hbw:b < w.heap.size:=World.block_lt_of_cell? w _ c0
 have d0:=later ((HBW.out.cell (p:=⟨b,off,none⟩) hbw).trans c0)
 have h0:=Aft.refl W
 have hlp:(0:Int) < l.length:=by omega
 have e0:=str_eq (l.getD 0 ⟨#[]⟩) [97,114,114,97,121]
 by_cases ha:un (l.getD 0 ⟨#[]⟩)=[97,114,114,97,121]
 ·rw [if_pos ha] at HD
  rw [decide_eq_true ha] at e0
  clear ha
  by_cases h3:l.length=3
  rotate_left
  ·rw [if_neg (fun h=>h3 h.1)] at HD
   have hz3:((l.length:Int) != 3)=true:=by simp;omega
   clear h3 HL HLW HS HN HSZ hl0
   generalize l.getD 0 ⟨#[]⟩=s0 at *
   exact q74x4
  obtain ⟨b1,off1,hbb,c1⟩:=word_at HLW.out 1 (by omega)
  cases hbb
  obtain ⟨b2,off2,hbb,c2⟩:=word_at HLW.out 2 (by omega)
  cases hbb
  have d2:=later ((HBW.out.cell (p:=⟨b,off+2,none⟩) hbw).trans c2)
  have HMK:=hid (markR_calls (l.getD 1 ⟨#[]⟩) (HS.out _ (by rw [List.getD_eq_getElem?_getD,List.getElem?_eq_getElem (by omega:1 < l.length)];exact List.getElem_mem _)) 116 W)
  have HSM:=hid (fun wx=>NumH.ref_small_calls (l.getD 2 ⟨#[]⟩) (HS.out _ (by rw [List.getD_eq_getElem?_getD,List.getElem?_eq_getElem (by omega:2 < l.length)];exact List.getElem_mem _)) 999 wx)
  rw [show (((116:UInt8).toNat:Nat):Int)=116 from rfl] at HMK
  unfold MkR at HMK
  unfold NumG.SmPost at HSM
  unfold un at HD
  clear c2 HL HLW HS hl0
  generalize l.getD 0 ⟨#[]⟩=s0 at *
  generalize l.getD 1 ⟨#[]⟩=s1 at *
  generalize l.getD 2 ⟨#[]⟩=s2 at *
  generalize mkN s1 116=p1 at *
  generalize NumG.sm s2.data.toList 999=p2 at *
  obtain ⟨q1,e1⟩:=p1
  obtain ⟨q2,e2⟩:=p2
  simp only at HMK HSM HD
  have hd:(if l.length=3∧e1=0∧e2=0 then some (⟨5,q1,q2,[]⟩:Ty) else none)=if (e1 == 0 && e2 == 0)=true then some ⟨5,q1,q2,[]⟩ else none:=by
   simp [h3]
  rw [hd] at HD
  clear hd
  generalize l.length=ln at *
  subst h3
  go_enter Tryz.func112,Tryz.ntmps112
  go_wp2_with fail
  rw [← HW.out]
  refine HMK.out.mono ?_
  rintro e w1 ⟨rfl,hb1⟩
  have h2:=h0.go hb1
  have HSS:=hid (HSM.out w1)
  clear hb1 HMK HSM
  go_wp2_with fail
  refine HSS.out.mono ?_
  rintro e w2 ⟨rfl,hb2⟩
  have h3:=h2.go hb2
  clear hb2 HSS
  cases f1:(e1 == 0) with
  | false =>
   rw [f1] at HD
   exact q74x2
  | true =>
  cases f2:(e2 == 0) with
  | false =>
   rw [f1,f2] at HD
   exact q74x2
  | true =>
   rw [f1,f2] at HD
   rw [if_pos (show (true && true)=true from rfl)] at HD
   have hn:=aft_heap h3 HN.out
   have y0:=cells_of hn 0 _ rfl
   have y1:=cells_of hn 1 _ rfl
   have y2:=cells_of hn 2 _ rfl
   have y3:=cells_of hn 3 _ rfl
   have z0:=(ShTB.cells_heap hn).2 0
   have z1:=(ShTB.cells_heap hn).2 1
   have z2:=(ShTB.cells_heap hn).2 2
   have z3:=(ShTB.cells_heap hn).2 3
   obtain ⟨W3,hW3,hne3,hk3,hb3⟩:=set4_world w2 w.heap.size 77 (.int .u8 0) (.int .i64 0) (.int .i64 0) (.slice none 0 0) (.int .u8 5) (.int .i64 q1) (.int .i64 q2) (.slice none 0 0) hn
   have HW3:=hid hW3
   have HB3:=hid (hb3 _ _ (h3.out HBW.out) (Nat.le_refl _))
   have x0:=cells_of hk3 0 _ rfl
   have x1:=cells_of hk3 1 _ rfl
   have x2:=cells_of hk3 2 _ rfl
   have x3:=cells_of hk3 3 _ rfl
   clear hn hW3 hk3 hb3 hne3
   go_wp2
   (try simp only [Exit.inBlock,Exit.then])
   rw [← HW3.out]
   refine bodyPost_ret (by simp [results,Tryz.results112,go_sem,x0,x1,x2,x3];try rfl) rfl ?_
   exact ⟨⟨5,q1,q2,[]⟩,.slice none 0 0,by rw [HD.out];rfl,(fun y h=>by rw [HD.out] at h;exact Option.some.inj h),parts_none _ _,HB3.out⟩
 rw [if_neg ha] at HD
 rw [decide_eq_false ha] at e0
 clear ha
 obtain ⟨v1,hv1,hr1'⟩:=strs_drop HL.out (k:=1) h1
 have hr1:∀ wx:World,(Instr.slice 74 (.slice (some ⟨b,off,none⟩) l.length cap) (some (.int .i64 1)) none none).run Tryz.prog wx=.ok v1 wx:=hr1'
 have HM1:=hid (marks_calls 116 (l.drop 1) v1 W hv1 (by simp;omega) (fun x hx=>HS.out x (List.mem_of_mem_drop hx)))
 rw [show (((116:UInt8).toNat:Nat):Int)=116 from rfl] at HM1
 have e1:=str_eq (l.getD 0 ⟨#[]⟩) [105,110,116]
 have e2:=str_eq (l.getD 0 ⟨#[]⟩) [112,116,114]
 have e3:=str_eq (l.getD 0 ⟨#[]⟩) [102,110]
 have e4:=str_eq (l.getD 0 ⟨#[]⟩) [115,116,114,117,99,116]
 obtain ⟨sl1,cap1,rfl,_⟩:=hv1.slice
 clear hr1' hv1 HL HLW HS hl0
 generalize l.getD 0 ⟨#[]⟩=s0 at *
 generalize (l.drop 1).length=n1 at *
 go_enter Tryz.func112,Tryz.ntmps112
 generalize l.length=ln at *
 go_wp2_with fail
 rw [← HW.out]
 refine HM1.out.mono ?_
 rintro e w1 ⟨u,xs,rfl,hown,hsome,hnone,hb1⟩
 have h2:=h0.go hb1
 obtain ⟨ua,uc,rfl⟩:=own_slice hown
 have HOWN:=hid hown
 have HSM:=hid hsome
 have HNO:=hid hnone
 have HA2:=hid h2
 clear hb1 hown hsome hnone HM1 h2
 cases hm:marksO 116 (l.drop 1) with
 | none =>
  rw [hm] at HD
  have hxs:=HNO.out hm
  subst hxs
  clear hm HSM HNO
  by_cases t1:un s0=[105,110,116]
  ·rw [decide_eq_true t1] at e1
   clear t1
   have h2:=HA2.out
   exact q74x3
  rw [decide_eq_false t1] at e1
  clear t1
  by_cases t2:un s0=[112,116,114]
  ·rw [decide_eq_true t2] at e2
   clear t2
   have h2:=HA2.out
   exact q74x1
  rw [decide_eq_false t2] at e2
  clear t2
  by_cases t3:un s0=[102,110]
  ·rw [decide_eq_true t3] at e3
   clear t3
   have h2:=HA2.out
   exact q74x1
  rw [decide_eq_false t3] at e3
  clear t3
  by_cases t4:un s0=[115,116,114,117,99,116]
  ·rw [decide_eq_true t4] at e4
   clear t4
   have h2:=HA2.out
   have hn:=aft_heap h2 HN.out
   have y0:=cells_of hn 0 _ rfl
   have y1:=cells_of hn 1 _ rfl
   have y2:=cells_of hn 2 _ rfl
   have y3:=cells_of hn 3 _ rfl
   have z0:=(ShTB.cells_heap hn).2 0
   have z1:=(ShTB.cells_heap hn).2 1
   have z2:=(ShTB.cells_heap hn).2 2
   have z3:=(ShTB.cells_heap hn).2 3
   obtain ⟨W3,hW3,hne3,hk3,hb3⟩:=set4_world w1 w.heap.size 77 (.int .u8 0) (.int .i64 0) (.int .i64 0) (.slice none 0 0) (.int .u8 4) (.int .i64 0) (.int .i64 0) (.slice ua 0 uc) hn
   have HW3:=hid hW3
   have HB3:=hid (hb3 _ _ (h2.out HBW.out) (Nat.le_refl _))
   have HPA:=hid ((parts_set ((parts_of HOWN.out (Nat.le_refl _))) HSZ.out hne3 (hb3 0 w1 (Below.refl _ _) (by omega)).size hn).base (C:=w.heap.size) (by have:=HSZ.out;omega))
   have x0:=cells_of hk3 0 _ rfl
   have x1:=cells_of hk3 1 _ rfl
   have x2:=cells_of hk3 2 _ rfl
   have x3:=cells_of hk3 3 _ rfl
   clear hn hW3 hk3 hb3 hne3
   go_wp2
   (try simp only [Exit.inBlock,Exit.then])
   rw [← HW3.out]
   refine bodyPost_ret (by simp [results,Tryz.results112,go_sem,x0,x1,x2,x3];try rfl) rfl ?_
   exact ⟨⟨4,0,0,[]⟩,.slice ua 0 uc,by rw [HD.out];rfl,(fun y h=>by rw [HD.out] at h;cases h),HPA.out,HB3.out⟩
  rw [decide_eq_false t4] at e4
  clear t4
  have h2:=HA2.out
  exact q74x1
 | some r =>
  rw [hm] at HD
  have hxs:=HSM.out r hm
  subst hxs
  clear hm HSM HNO
  simp only at HD
  by_cases t1:un s0=[105,110,116]
  ·rw [decide_eq_true t1] at e1
   rw [if_pos t1] at HD
   clear t1
   have h2:=HA2.out
   by_cases hx:xs.length=0
   ·rw [if_pos hx] at HD
    have hx2:((xs.length:Int) == 0)=true:=by rw [hx];rfl
    clear hx HOWN HSZ
    generalize xs.length=xn at *
    have hn:=aft_heap h2 HN.out
    have y0:=cells_of hn 0 _ rfl
    have y1:=cells_of hn 1 _ rfl
    have y2:=cells_of hn 2 _ rfl
    have y3:=cells_of hn 3 _ rfl
    have z0:=(ShTB.cells_heap hn).2 0
    have z1:=(ShTB.cells_heap hn).2 1
    have z2:=(ShTB.cells_heap hn).2 2
    have z3:=(ShTB.cells_heap hn).2 3
    obtain ⟨W3,hW3,hne3,hk3,hb3⟩:=set4_world w1 w.heap.size 77 (.int .u8 0) (.int .i64 0) (.int .i64 0) (.slice none 0 0) (.int .u8 1) (.int .i64 0) (.int .i64 0) (.slice none 0 0) hn
    have HW3:=hid hW3
    have HB3:=hid (hb3 _ _ (h2.out HBW.out) (Nat.le_refl _))
    have x0:=cells_of hk3 0 _ rfl
    have x1:=cells_of hk3 1 _ rfl
    have x2:=cells_of hk3 2 _ rfl
    have x3:=cells_of hk3 3 _ rfl
    clear hn hW3 hk3 hb3 hne3
    go_wp2
    (try simp only [Exit.inBlock,Exit.then])
    rw [← HW3.out]
    refine bodyPost_ret (by simp [results,Tryz.results112,go_sem,x0,x1,x2,x3];try rfl) rfl ?_
    exact ⟨⟨1,0,0,[]⟩,.slice none 0 0,by rw [HD.out];rfl,(fun y h=>by rw [HD.out] at h;exact Option.some.inj h),parts_none _ _,HB3.out⟩
   ·rw [if_neg hx] at HD
    have hx2:((xs.length:Int) == 0)=false:=by rw [beq_eq_false_iff_ne];omega
    clear hx HOWN HSZ
    generalize xs.length=xn at *
    exact q74x3
  rw [decide_eq_false t1] at e1
  rw [if_neg t1] at HD
  clear t1
  by_cases t2:un s0=[112,116,114]
  ·rw [decide_eq_true t2] at e2
   rw [if_pos t2] at HD
   clear t2
   have h2:=HA2.out
   by_cases hx:xs.length=1
   ·obtain ⟨t,rfl⟩:=one_of hx
    rw [if_pos (show [t].length=1 from rfl)] at HD
    obtain ⟨g,cap2,hg,_,_,_,hc⟩:=TyW.row_cells HOWN.out (by rw [intVals_length];exact Nat.zero_lt_one)
    cases hg
    have c1:=hc 0 (.int .i64 t) rfl
    clear hc hx HOWN HSZ
    have hn:=aft_heap h2 HN.out
    have y0:=cells_of hn 0 _ rfl
    have y1:=cells_of hn 1 _ rfl
    have y2:=cells_of hn 2 _ rfl
    have y3:=cells_of hn 3 _ rfl
    have z0:=(ShTB.cells_heap hn).2 0
    have z1:=(ShTB.cells_heap hn).2 1
    have z2:=(ShTB.cells_heap hn).2 2
    have z3:=(ShTB.cells_heap hn).2 3
    obtain ⟨W3,hW3,hne3,hk3,hb3⟩:=set4_world w1 w.heap.size 77 (.int .u8 0) (.int .i64 0) (.int .i64 0) (.slice none 0 0) (.int .u8 2) (.int .i64 t) (.int .i64 0) (.slice none 0 0) hn
    have HW3:=hid hW3
    have HB3:=hid (hb3 _ _ (h2.out HBW.out) (Nat.le_refl _))
    have x0:=cells_of hk3 0 _ rfl
    have x1:=cells_of hk3 1 _ rfl
    have x2:=cells_of hk3 2 _ rfl
    have x3:=cells_of hk3 3 _ rfl
    clear hn hW3 hk3 hb3 hne3
    go_wp2
    (try simp only [Exit.inBlock,Exit.then])
    rw [← HW3.out]
    refine bodyPost_ret (by simp [results,Tryz.results112,go_sem,x0,x1,x2,x3];try rfl) rfl ?_
    exact ⟨⟨2,t,0,[]⟩,.slice none 0 0,by rw [HD.out];rfl,(fun y h=>by rw [HD.out] at h;exact Option.some.inj h),parts_none _ _,HB3.out⟩
   ·rw [if_neg hx] at HD
    have hx2:((xs.length:Int) != 1)=true:=by rw [bne_iff_ne];omega
    clear hx HOWN HSZ
    generalize xs.length=xn at *
    exact q74x1
  rw [decide_eq_false t2] at e2
  rw [if_neg t2] at HD
  clear t2
  by_cases t3:un s0=[102,110]
  ·rw [decide_eq_true t3] at e3
   rw [if_pos t3] at HD
   clear t3
   have h2:=HA2.out
   by_cases hx:1≤xs.length
   ·obtain ⟨t,r,rfl⟩:=more_of hx
    rw [if_pos hx] at HD
    obtain ⟨g,cap2,hg,_,_,_,hc⟩:=TyW.row_cells HOWN.out (by rw [intVals_length];exact hx)
    cases hg
    have c1:=later (hc 0 (.int .i64 t) rfl)
    obtain ⟨pv,hpv,hrp'⟩:=parts_drop (parts_of HOWN.out (Nat.le_refl _)) (k:=1) hx
    have hrp:∀ wx:World,(Instr.slice 55 (.slice (some ⟨g,0,none⟩) (t :: r).length uc) (some (.int .i64 1)) none none).run Tryz.prog wx=.ok pv wx:=hrp'
    have hlp2:(0:Int) < ((t :: r).length:Nat):=by omega
    have hl1:¬ (((t :: r).length:Nat):Int) < 1:=by omega
    have hxn:0 < (t :: r).length:=hx
    have HPV:=hid hpv
    obtain ⟨pva,pvc,rfl,_⟩:=ints_slice hpv.1
    have HHW:=hid (Aft.refl w1).drew
    have HHN:=hid (aft_heap h2 HN.out)
    clear hc hx HOWN hpv hrp'
    generalize (t :: r).length=xn at *
    go_upto_region 20 with fail
    all_goals (try (exfalso;omega))
    refine wp_region_noPanic ?_
    refine wp_region_Z (S:=(fun w'=>Aft w1 w')) (Z:=[6]) (by kernel_rfl) ?_ (fun hHeld=>?_)
    ·(try dsimp only)
     (exact HHW.out)
    refine zP 0 rfl ?_
    refine zP 1 rfl ?_
    refine zT 2 rfl ?_
    refine zP 3 rfl ?_
    refine zP 4 rfl ?_
    refine zP 5 rfl ?_
    refine zL 6 rfl (fun K hK=>?_)
    have y0:=(ShTB.cells_heap (w:=w1.drew) HHN.out).2 0
    have v0:=(ShTB.cells_heap HHN.out).2 0
    have f0:=cells_of (W:=w1.drew) HHN.out 0 _ rfl
    have g0:=cells_of HHN.out 0 _ rfl
    have y1:=(ShTB.cells_heap (w:=w1.drew) HHN.out).2 1
    have v1:=(ShTB.cells_heap HHN.out).2 1
    have f1:=cells_of (W:=w1.drew) HHN.out 1 _ rfl
    have g1:=cells_of HHN.out 1 _ rfl
    have y2:=(ShTB.cells_heap (w:=w1.drew) HHN.out).2 2
    have v2:=(ShTB.cells_heap HHN.out).2 2
    have f2:=cells_of (W:=w1.drew) HHN.out 2 _ rfl
    have g2:=cells_of HHN.out 2 _ rfl
    have y3:=(ShTB.cells_heap (w:=w1.drew) HHN.out).2 3
    have v3:=(ShTB.cells_heap HHN.out).2 3
    have f3:=cells_of (W:=w1.drew) HHN.out 3 _ rfl
    have g3:=cells_of HHN.out 3 _ rfl
    go_simp
    refine hK.out _ _ ?_
    clear hK K
    refine zL 7 rfl (fun K hK=>?_)
    go_simp
    refine hK.out _ _ ?_
    clear hK K
    try simp only [Act.put,List.setIfInBounds_toArray,List.set_cons_zero,List.set_cons_succ]
    refine wpAnyZ_done (by kernel_rfl) ?_ _
    refine NoPanic.normal ?_
    obtain ⟨W3,hW3,hne3,hk3,hb3⟩:=set4_worldD w1 w.heap.size 77 _ _ _ _ (.int .u8 3) (.int .i64 t) (.int .i64 0) (.slice pva r.length pvc) HHN.out
    rw [← hW3]
    have HB3:=hid (hb3 _ _ (h2.out HBW.out) (Nat.le_refl _))
    have HPA:=hid ((parts_set HPV.out HSZ.out hne3 (hb3 0 w1 (Below.refl _ _) (by omega)).size HHN.out).base (C:=w.heap.size) (by have:=HSZ.out;omega))
    have x0:=cells_of hk3 0 _ rfl
    have x1:=cells_of hk3 1 _ rfl
    have x2:=cells_of hk3 2 _ rfl
    have x3:=cells_of hk3 3 _ rfl
    clear hW3 hk3 hb3 hne3 y0 y1 y2 y3 v0 v1 v2 v3 f0 f1 f2 f3 g0 g1 g2 g3 HHN
    go_wp2
    (try simp only [Exit.inBlock,Exit.then])
    refine bodyPost_ret (by simp [results,Tryz.results112,go_sem,x0,x1,x2,x3];try rfl) rfl ?_
    exact ⟨⟨3,t,0,r⟩,.slice pva r.length pvc,by rw [HD.out];rfl,(fun y h=>by rw [HD.out] at h;exact Option.some.inj h),HPA.out,HB3.out⟩
   ·rw [if_neg hx] at HD
    have hx0:xs.length=0:=by omega
    clear hx HOWN HSZ
    generalize xs.length=xn at *
    subst hx0
    exact q74x1
  rw [decide_eq_false t3] at e3
  rw [if_neg t3] at HD
  clear t3
  by_cases t4:un s0=[115,116,114,117,99,116]
  ·rw [decide_eq_true t4] at e4
   rw [if_pos t4] at HD
   clear t4
   have h2:=HA2.out
   have hxs:=own_len HOWN.out
   have hn:=aft_heap h2 HN.out
   have y0:=cells_of hn 0 _ rfl
   have y1:=cells_of hn 1 _ rfl
   have y2:=cells_of hn 2 _ rfl
   have y3:=cells_of hn 3 _ rfl
   have z0:=(ShTB.cells_heap hn).2 0
   have z1:=(ShTB.cells_heap hn).2 1
   have z2:=(ShTB.cells_heap hn).2 2
   have z3:=(ShTB.cells_heap hn).2 3
   obtain ⟨W3,hW3,hne3,hk3,hb3⟩:=set4_world w1 w.heap.size 77 (.int .u8 0) (.int .i64 0) (.int .i64 0) (.slice none 0 0) (.int .u8 4) (.int .i64 0) (.int .i64 0) (.slice ua xs.length uc) hn
   have HW3:=hid hW3
   have HB3:=hid (hb3 _ _ (h2.out HBW.out) (Nat.le_refl _))
   have HPA:=hid ((parts_set ((parts_of HOWN.out (Nat.le_refl _))) HSZ.out hne3 (hb3 0 w1 (Below.refl _ _) (by omega)).size hn).base (C:=w.heap.size) (by have:=HSZ.out;omega))
   have x0:=cells_of hk3 0 _ rfl
   have x1:=cells_of hk3 1 _ rfl
   have x2:=cells_of hk3 2 _ rfl
   have x3:=cells_of hk3 3 _ rfl
   clear hn hW3 hk3 hb3 hne3
   go_wp2
   (try simp only [Exit.inBlock,Exit.then])
   rw [← HW3.out]
   refine bodyPost_ret (by simp [results,Tryz.results112,go_sem,x0,x1,x2,x3];try rfl) rfl ?_
   exact ⟨⟨4,0,0,xs⟩,.slice ua xs.length uc,by rw [HD.out];rfl,(fun y h=>by rw [HD.out] at h;exact Option.some.inj h),HPA.out,HB3.out⟩
  rw [decide_eq_false t4] at e4
  rw [if_neg t4] at HD
  clear t4
  have h2:=HA2.out
  clear HOWN HSZ
  generalize xs.length=xn at *
  exact q74x1
end Go.Proofs.YtbebficgcemkoaaGreatDoor.RdK
namespace Go.Proofs.YtbebficgcemkoaaGreatDoor.RdW
open Go.RowKit Go.Lib TyM TyP ShM ShP ShB IntO SetP LxM LxJ LxY RwO RdM RdN RdV RdB RdK Aft RcP RcV RcW
open TyW (Row rowVals rowVals_length)
open LxP (LinesAt StrsAt)

def PrgR (o:Option Px) (w:World) (e:Ending) (w' : World):Prop:=∃ v q,e=.returned (.tuple #[v,.bool o.isSome])∧(∀ z,o=some z→q=z)∧PrNew w.heap.size w' v q∧Below w.heap.size w w'
structure PgS (w:World) (vt:Value) (rt:List Row) (vf:Value) (rf:List Fr) (wr:World):Prop where
 res:wr.heap[w.heap.size]?=some (.cells #[.slice none 0 0,.slice none 0 0] 28 (0,0))
 box:wr.heap[w.heap.size+1]?=some (.cells #[vt,vf] 28 (0,0))
 ty:TyOwn w.heap.size wr vt rt
 fns:OwnFns w.heap.size wr vf rf
 below:Below w.heap.size w wr
 size:w.heap.size+2≤wr.heap.size
theorem PgS.on {w:World} {vt vf:Value} {rt:List Row} {rf:List Fr} {wr w' : World} (h:PgS w vt rt vf rf wr) (hb:Below wr.heap.size wr w'):PgS w vt rt vf rf w' :=
 ⟨(hb.block _ (by have:=h.size;omega)).trans h.res,(hb.block _ (by have:=h.size;omega)).trans h.box,h.ty.on hb,h.fns.below hb,h.below.trans (hb.mono (by have:=h.size;omega)),Nat.le_trans h.size hb.size⟩
theorem PgS.start (w:World):PgS w (.slice none 0 0) [] (.slice none 0 0) [] ((w.alloc (.cells #[.slice none 0 0,.slice none 0 0] 28)).alloc (.cells #[.slice none 0 0,.slice none 0 0] 28)):=by
 refine ⟨alloc_old (alloc_new _ _) _,?_,⟨World.ownsRow_nil _ _ _ _,by simp⟩,⟨World.ownsRow_nil _ _ _ _,by simp⟩,(alloc_below _ _).alloc (by simp) _,by simp only [World.size_alloc];omega⟩
 have:=alloc_new (w.alloc (.cells #[.slice none 0 0,.slice none 0 0] 28)) (.cells #[.slice none 0 0,.slice none 0 0] 28)
 rwa [World.size_alloc] at this
theorem PgS.growT {w:World} {vt vf v5:Value} {rt:List Row} {rf:List Fr} {w4 w5:World} {y:Row} (h:PgS w vt rt vf rf w4) (hy:PartsAt w.heap.size w4 y.2 y.1.parts) (h5:w5.ownsRow w.heap.size 77 4 v5 (rt.length+1) (rowOf tyRow rt++rowOf tyRow [y])) (hg:w4.grownBy w5 vt.ownBlock) :
  w5.heap[w.heap.size+1]?=some (.cells #[vt,vf] 28 (0,0))∧PgS w v5 (rt++[y]) vf rf (w5.setCell ⟨w.heap.size+1,0,none⟩ v5):=by
 have g1:=h.ty.grow hy h5 hg
 have g2:=ownFns_other h.fns hg (own_typed h.ty.1) (by decide) (by decide) (by decide) (by decide)
 have hs:=h.size
 have hlo:=h.ty.1.lt
 have hne:∀ n cs,w4.heap[n]?=some (.cells cs 28 (0,0))→vt.ownBlock≠some n:=fun n cs hn e=>by
  obtain ⟨cs2,fr2,h3⟩:=own_typed h.ty.1 _ e
  rw [hn] at h3
  simp at h3
 have hres:w5.heap[w.heap.size]?=_:=(hg.block _ (Array.getElem?_eq_some_iff.1 h.res).1 (fun e=>hne _ _ h.res e.symm)).trans h.res
 have hbox:w5.heap[w.heap.size+1]?=_:=(hg.block _ (Array.getElem?_eq_some_iff.1 h.box).1 (fun e=>hne _ _ h.box e.symm)).trans h.box
 have hgs:=ShTB.grown_set w5 (w.heap.size+1) 0 v5
 exact ⟨hbox,⟨(Below.heap_setCell _ _ _ _ (by simp)).trans hres,(ShTB.set_heap' (i:=0) v5 hbox).trans (by simp),g1.other hgs (ShTB.typed_at hbox) (by decide) (by decide),ownFns_other g2 hgs (ShTB.typed_at hbox) (by decide) (by decide) (by decide) (by decide),(h.below.grown hg (by omega) (fun k hk=>(hlo k hk).1)).setCell (p:=⟨w.heap.size+1,0,none⟩) (Nat.le_succ _) v5,by rw [ShTB.size_set];have:=hg.size;omega⟩⟩
theorem PgS.growF {w:World} {vt vf v5:Value} {rt:List Row} {rf:List Fr} {w4 w5:World} {y:Fr} (h:PgS w vt rt vf rf w4) (hy:OwnBlks w.heap.size w4 y.vb y.blocks) (h5:w5.ownsRow w.heap.size 49 2 v5 (rf.length+1) (rowOf frV rf++rowOf frV [y])) (hg:w4.grownBy w5 vf.ownBlock) :
  w5.heap[w.heap.size+1]?=some (.cells #[vt,vf] 28 (0,0))∧PgS w vt rt v5 (rf++[y]) (w5.setCell ⟨w.heap.size+1,1,none⟩ v5):=by
 have g1:=h.ty.other hg (own_typed h.fns.1) (by decide) (by decide)
 have g2:=fns_more h.fns hy h5 hg
 have hs:=h.size
 have hlo:=h.fns.1.lt
 have hne:∀ n cs,w4.heap[n]?=some (.cells cs 28 (0,0))→vf.ownBlock≠some n:=fun n cs hn e=>by
  obtain ⟨cs2,fr2,h3⟩:=own_typed h.fns.1 _ e
  rw [hn] at h3
  simp at h3
 have hres:w5.heap[w.heap.size]?=_:=(hg.block _ (Array.getElem?_eq_some_iff.1 h.res).1 (fun e=>hne _ _ h.res e.symm)).trans h.res
 have hbox:w5.heap[w.heap.size+1]?=_:=(hg.block _ (Array.getElem?_eq_some_iff.1 h.box).1 (fun e=>hne _ _ h.box e.symm)).trans h.box
 have hgs:=ShTB.grown_set w5 (w.heap.size+1) 1 v5
 exact ⟨hbox,⟨(Below.heap_setCell _ _ _ _ (by simp)).trans hres,(ShTB.set_heap' (i:=1) v5 hbox).trans (by simp),g1.other hgs (ShTB.typed_at hbox) (by decide) (by decide),ownFns_other g2 hgs (ShTB.typed_at hbox) (by decide) (by decide) (by decide) (by decide),(h.below.grown hg (by omega) (fun k hk=>(hlo k hk).1)).setCell (p:=⟨w.heap.size+1,1,none⟩) (Nat.le_succ _) v5,by rw [ShTB.size_set];have:=hg.size;omega⟩⟩
theorem PgS.done {w:World} {vt vf:Value} {rt:List Row} {rf:List Fr} {wr:World} (h:PgS w vt rt vf rf wr) :
  ∃ W3,W3=((wr.setCell ⟨w.heap.size,0,none⟩ vt).setCell ⟨w.heap.size,1,none⟩ vf) ∧
   W3.heap[w.heap.size]?=some (.cells #[vt,vf] 28 (0,0))∧TyOwn w.heap.size W3 vt rt∧OwnFns w.heap.size W3 vf rf∧Below w.heap.size w W3:=by
 obtain ⟨W3,h1,h2,h3,h4⟩:=set2_world wr w.heap.size 28 _ _ vt vf h.res
 have hb:=h4 0 wr (Below.refl _ _) (Nat.zero_le _)
 have hgr:wr.grownBy W3 (some w.heap.size):=⟨hb.os,hb.tape,hb.output,hb.size,fun k _ hk=>h2 k (fun e=>hk (by rw [e]))⟩
 exact ⟨W3,h1,h3,h.ty.other hgr (ShTB.typed_at h.res) (by decide) (by decide),ownFns_other h.fns hgr (ShTB.typed_at h.res) (by decide) (by decide) (by decide) (by decide),h4 _ _ h.below (Nat.le_refl _)⟩
theorem pr_new {B:Nat} {w:World} {vt vf:Value} {rt:List Row} {rf:List Fr} (ht:TyOwn B w vt rt) (hf:OwnFns B w vf rf) (hl:rt.length≤100000):PrNew B w (.agg #[vt,vf]) ⟨rt.map Prod.fst,rf.map Fr.fx⟩ :=
 fun _ hk=>⟨vt,vf,rfl,(tyOwn_up ht hk).tys hl,(ownFns_up hf hk).row⟩
theorem mk_nonneg (x:ByteArray) (c:UInt8):0≤(mkN x c).1:=by
 by_cases h:(mkN x c).2=0
 ·exact (RcS.mk_range h).1
 ·unfold mkN at h ⊢
  split at h
  ·exact Int.le_refl _
  ·split at h
   ·rename_i hx
    rcases sm_cases (by assumption) with h2 | h2
    ·exact absurd h2 h
    ·simp only [hx,if_true,h2]
     exact Int.le_refl _
   ·rename_i hx
    simp only [hx,if_false]
    exact Int.le_refl _
theorem funcs_at (ts:List Ty) {l:Ln} (M:List Ln) {sg em:Int} (h2:l.length=2) (hw:w0 l=[102,117,110,99]) (hm:mkN (l.getD 1 ⟨#[]⟩) 116=(sg,em)) :
  funcsP ts (l :: M)=if em=0 then (match blocksP M (regOf ts sg) with
   | none=>none
   | some (bs,n)=>preG [⟨sg,bs⟩] (funcsP ts (M.drop n))) else none:=by
 rw [funcs_cons,if_pos ⟨h2,hw⟩,hm]
 unfold funcP
 by_cases he:em=0
 ·simp only [he,if_true]
  cases blocksP M (regOf ts sg) with
  | none=>rfl
  | some r=>rfl
 ·simp only [he,if_false]
theorem PgS.stored {w:World} {vt vf vb:Value} {rt:List Row} {rf:List Fr} {bs:List Br} {w4 wx:World} {b:Nat} (hs:PgS w vt rt vf rf w4) (hb:Below w4.heap.size w4 wx) (hlo:w4.heap.size≤b) (hk:wx.heap[b]?=some (.cells #[.int .i64 0,.slice none 0 0] 49 (0,0))) (ho:OwnBlks w.heap.size wx vb bs) (sg:Int) :
  ∃ W3,W3=((wx.setCell ⟨b,0,none⟩ (.int .i64 sg)).setCell ⟨b,1,none⟩ vb)∧W3.heap[b]?=some (.cells #[.int .i64 sg,vb] 49 (0,0))∧OwnBlks w.heap.size W3 vb bs∧PgS w vt rt vf rf W3:=by
 obtain ⟨W3,h1,h2,h3,h4⟩:=set2_world wx b 49 _ _ (.int .i64 sg) vb hk
 have hbb:=h4 0 wx (Below.refl _ _) (Nat.zero_le _)
 have hgr:wx.grownBy W3 (some b):=⟨hbb.os,hbb.tape,hbb.output,hbb.size,fun k _ hk=>h2 k (fun e=>hk (by rw [e]))⟩
 exact ⟨W3,h1,h3,ho.other hgr (ShTB.typed_at hk) (by decide) (by decide) (by decide),hs.on (h4 _ _ hb hlo)⟩
end Go.Proofs.YtbebficgcemkoaaGreatDoor.RdW
