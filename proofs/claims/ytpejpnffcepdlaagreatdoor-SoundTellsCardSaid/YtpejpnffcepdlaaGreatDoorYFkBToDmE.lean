/- Walks over slices.Backward and its closure: a range over a function. A walk over flow.Order. Walk over dom.find: the rulers of a function's blocks. Walks over dom.Rules, dom.Next. Walk over dom.All. -/
import Derived.Test.YtpejpnffcepdlaaGreatDoorYFvEToFdK
import Derived.RangeFuncNested
import Derived.RangeFuncBound
import Derived.RangeFuncCalls
import Derived.RangeFuncLeaves
import Derived.RangeFuncBox
import Derived.Shelf.Abstract
import Derived.Shelf.RegionOpen
import Derived.WalkKit
import Derived.OwnWalkIn
import Derived.TacticsInMore
import Derived.LoopNIn
import Derived.LoopIn
import Derived.Sort.LoopGhostIn
import Derived.Sort.CutIn
import Derived.Stop.RegionWithIn
import Derived.IntWalk
import Derived.Maps.AppendAt
import Derived.Test.YtpejpnffcepdlaaGreatDoorYTyBToTyTI
set_option maxRecDepth 100000
set_option maxHeartbeats 16000000
namespace Go.Proofs.YtpejpnffcepdlaaGreatDoor.FkB
open Go.RowKit Go.Lib Go.Shelf SetP IntO TyM TyP TyB ShM ShP ShB Aft Fresh FwQ FwR FwO FkS FkW
attribute [local go_sem] Oper.semAt_some

def KpB (bl n0:Nat) (W W' : World):Prop:=W.heap.size≤W'.heap.size∧∀ j,j < n0→j≠bl→W'.heap[j]?=W.heap[j]?
theorem KpB.refl (bl n0:Nat) (W:World):KpB bl n0 W W:=⟨Nat.le_refl _,fun _ _ _=>rfl⟩
theorem KpB.trans {bl n0:Nat} {a b c:World} (h:KpB bl n0 a b) (k:KpB bl n0 b c):KpB bl n0 a c:=⟨Nat.le_trans h.1 k.1,fun j hj hn=>(k.2 j hj hn).trans (h.2 j hj hn)⟩
theorem KpB.cell {bl n0 b o:Nat} {W W' : World} (h:KpB bl n0 W W') (hb:b < n0) (hne:b≠bl):W'.cell? ⟨b,o,none⟩=W.cell? ⟨b,o,none⟩:=by
 unfold World.cell?
 rw [h.2 b hb hne]
def revP (l:List Int):List (Nat × Int):=((List.range l.length).map fun i=>(i,l.getD i 0)).reverse
theorem revP_length (l:List Int):(revP l).length=l.length:=by simp [revP]
def dn (l:List Int) (g:Nat):List (Nat × Int):=(revP l).take (l.length - g)
theorem dn_all (l:List Int):dn l 0=revP l:=by unfold dn;rw [Nat.sub_zero,← revP_length,List.take_length]
theorem dn_none (l:List Int):dn l l.length=[]:=by unfold dn;rw [Nat.sub_self];rfl
theorem dn_succ {l:List Int} {m:Nat} (h:m < l.length):dn l m=dn l (m+1)++[(m,l[m])]:=by
 unfold dn
 have h1:l.length - m=(l.length - (m+1))+1:=by omega
 rw [h1,List.take_succ_eq_append_getElem (by rw [revP_length];omega)]
 congr 2
 unfold revP
 rw [List.getElem_reverse,List.getElem_map,List.getElem_range]
 simp only [List.length_map,List.length_range]
 have h2:l.length - 1 - (l.length - (m+1))=m:=by omega
 rw [h2,List.getD_eq_getElem?_getD,List.getElem?_eq_getElem h]
 rfl
theorem dn_pre (l:List Int) (g:Nat):dn l g <+: revP l:=List.take_prefix _ _
theorem dn_len {l:List Int} {g:Nat} (h:g < l.length):(dn l (g+1)).length < (revP l).length:=by
 unfold dn
 rw [List.length_take,revP_length]
 omega
theorem revP_snd (l:List Int):(revP l).map (·.2)=l.reverse:=by
 unfold revP
 rw [List.map_reverse,List.map_map]
 congr 1
 apply List.ext_getElem
 ·simp
 ·intro i h1 h2
  simp [List.getElem?_eq_getElem h2]

def After (J Jx:List (Nat × Int)→World→Prop) (bl n0:Nat) (cur:List (Nat × Int)) (W:World) (b:Bool) (W' : World):Prop :=
 if b=true then J cur W'∧KpB bl n0 W W' else Jx cur W'

theorem back_in (n:Nat) (hn:4≤n) (lab Bs bl n0:Nat) (v:Value) (l:List Int) (w0:World) (hl:IntsAt w0 v l) (hlen:l.length≤1000) (hap:∀ g off k c,v=.slice (some ⟨g,off,none⟩) k c→g < n0∧g≠bl) (J Jx:List (Nat × Int)→World→Prop) (W:World) (hb:KpB bl n0 w0 W) (_:AbidesFrom W.heap.size J)
  (hY:∀ pre x W,J pre W→pre.length < (revP l).length→YieldAt Fence.wide (n - 1) Tryz.prog lab #[.int .i64 (x.1:Int),.int .i64 x.2] W fun e W' =>
   (e=.returned (.bool true)∧J (pre++[x]) W'∧KpB bl n0 W W')∨(e=.returned (.bool false)∧Jx (pre++[x]) W'))
  (hBs:w0.cell? ⟨Bs,0,none⟩=some v) (hB1:Bs < n0) (hB2:Bs≠bl) (h0:J [] W) :
  CallsIn Fence.wide n Tryz.prog 182 #[.func (.yield lab) #[] #[],.pointer (some ⟨Bs,0,none⟩)] W fun e W'=>(∃ v,e=.returned v) ∧
   ((∃ ys,ys=revP l∧J ys W')∨(∃ pre,pre <+: revP l∧Jx pre W')):=by
 obtain ⟨ao,cap,rfl,_⟩:=ints_slice hl
 have HCL:Hid (∀ k (hk:k < l.length) (W' : World),KpB bl n0 w0 W'→∃ b off,ao=some ⟨b,off,none⟩∧W'.cell? ⟨b,off+k,none⟩=some (.int .i64 l[k])):=by
  intro k hk W' hW
  obtain ⟨b,off,rfl,_,hc⟩:=TyP.ints_at hl k hk
  obtain ⟨h1,h2⟩:=hap b off _ _ rfl
  exact ⟨b,off,rfl,(hW.cell h1 h2).trans hc⟩
 have HBS:=hid (fun (W' : World) (hW:KpB bl n0 w0 W')=>(hW.cell (o:=0) hB1 hB2).trans hBs)
 have HY:Hid (∀ pre x W,J pre W→pre.length < (revP l).length→YieldAt Fence.wide (n - 1) Tryz.prog lab #[.int .i64 (x.1:Int),.int .i64 x.2] W fun e W'=>∃ b,e=.returned (.bool b)∧After J Jx bl n0 (pre++[x]) W b W'):=by
  intro pre x W h1 h2
  obtain ⟨fn,tmps,assign,body,hy,hR⟩:=hY pre x W h1 h2
  refine ⟨fn,tmps,assign,body,hy,hR.mono ?_⟩
  rintro e W' (⟨rfl,h3,h4⟩ | ⟨rfl,h3⟩)
  ·exact ⟨true,rfl,h3,h4⟩
  ·exact ⟨false,rfl,h3⟩
 have HLN:=hid hlen
 have c0:=HBS.out W hb
 have h00:J (dn l l.length) W:=by rw [dn_none];exact h0
 have H00:=hid h00
 clear hY hl hlen hap hBs hB1 hB2 h0 h00
 refine callsIn_of_wp Tryz.func182 rfl trivial ?_ rfl
 simp only [Tryz.ntmps182,List.size_toArray,List.length_cons,List.length_nil,Nat.reduceAdd,Nat.reduceSub,Array.replicate_succ,Array.replicate_zero,List.push_toArray,List.append_toArray,List.nil_append,List.cons_append]
 have hl0:l.length≤1000:=HLN.out
 gi_wp2
 gi_loopg [3] l.length (fun g i wr=>g≤l.length∧i=.int .i64 ((g:Int) - 1)∧J (dn l g) wr∧KpB bl n0 w0 wr)
 case atStart=>exact ⟨Nat.le_refl _,rfl,H00.out,hb⟩
 case round =>
  obtain ⟨hg,rfl,hj,hk⟩:=hrel
  clear c0 H00
  by_cases hlt:0 < gk
  ·obtain ⟨m,rfl⟩:∃ m,gk=m+1:=⟨gk - 1,by omega⟩
   have e1:(((m+1:Nat):Int) - 1)=(m:Int):=by omega
   rw [e1]
   have hml:m < l.length:=hg
   obtain ⟨b,off,rfl,c1⟩:=HCL.out m hml wr hk
   have c0:=HBS.out wr hk
   have hmi:(m:Int) < (l.length:Int):=by omega
   obtain ⟨fn,tmps,assign,body,hy,hR⟩:=HY.out (dn l (m+1)) (m,l[m]) wr hj (dn_len hml)
   have HR:=hid hR
   have HD:Hid (dn l m=dn l (m+1)++[(m,l[m])]):=dn_succ hml
   have HPR:Hid (dn l (m+1)++[(m,l[m])] <+: revP l):=by
    show _ <+: _
    rw [← dn_succ hml]
    exact dn_pre l m
   have HM:=hid hml
   have HK:=hid hk
   have hn1:1≤n:=by omega
   have hnot:∀ (x:Bool) (w:World),(Op.unary .not (.bool x)).run Tryz.prog w=.ok (.bool (!x)) w:=fun _ _=>rfl
   rw [← HD.out] at HR HPR
   clear e1 hg hj hlt hk hR HD
   generalize l[m]=x at *
   gi_wp2
   refine HR.out.mono ?_
   rintro e W' ⟨bo,rfl,haf⟩
   cases bo
   ·have HX:Hid (Jx (dn l m) W'):=haf
    clear haf
    gi_wp2
    refine bodyPost_ret (results_none rfl _ _ _) rfl ?_
    exact ⟨⟨_,rfl⟩,.inr ⟨_,HPR.out,HX.out⟩⟩
   ·obtain ⟨hja,hka⟩:J (dn l m) W'∧KpB bl n0 wr W':=haf
    have HJA:=hid hja
    have HKA:=hid (HK.out.trans hka)
    clear hja hka c0 c1 hy HR
    gi_wp2
    gi_roundg m
    case measure=>omega
    case rel=>exact ⟨by have:=HM.out;omega,rfl,HJA.out,HKA.out⟩
  ·obtain rfl:gk=0:=by omega
   rw [dn_all] at hj
   have HJ:=hid hj
   clear hj hk
   gi_wp2
   go_end0
   exact ⟨⟨_,rfl⟩,.inl ⟨_,rfl,HJ.out⟩⟩
end Go.Proofs.YtpejpnffcepdlaaGreatDoor.FkB
namespace Go.Proofs.YtpejpnffcepdlaaGreatDoor.FkO
open Go.RowKit Go.Lib Go.Shelf SetP IntO TyM TyP TyB ShM ShP ShA ShB ShE ShH ShI ShJ Aft Fresh FwM FwC FwP FwQ FwR FwO FwK FkP FkN FkS FkW FkB
attribute [local go_sem] Oper.semAt_some

theorem fn_in (n:Nat) (a:Option Addr) (k c:Nat) (w:World) :
  CallsIn Fence.wide n Tryz.prog 143 #[.slice a k c] w fun e w'=>e=.returned (.func (.func 182) #[] #[.pointer (some ⟨w.heap.size,0,none⟩)])∧w.alloc (.cells #[.slice a k c] 29)=w':=by
 refine callsIn_of_wp Tryz.func143 rfl trivial ?_ rfl
 simp only [Tryz.ntmps143,List.size_toArray,List.length_cons,List.length_nil,Nat.reduceAdd,Nat.reduceSub,Array.replicate_succ,Array.replicate_zero,List.push_toArray,List.append_toArray,List.nil_append,List.cons_append]
 gi_wp2
 go_ret
 exact ⟨rfl,rfl⟩

theorem back_stops (n:Nat) (hn:4≤n) (Bs bl:Nat) (v:Value) (l:List Int) (w:World) (hl:IntsAt w v l) (hlen:l.length≤1000) (hap:∀ g off k c,v=.slice (some ⟨g,off,none⟩) k c→g < w.heap.size∧g≠bl)
  (hBs:w.cell? ⟨Bs,0,none⟩=some v) (hB2:Bs≠bl) :
  SeqStopsK Fence.wide n Tryz.prog 182 #[.pointer (some ⟨Bs,0,none⟩)] (fun x:Nat × Int=>#[Value.int .i64 (x.1:Int),Value.int .i64 x.2]) (KpB bl w.heap.size) (fun ys=>ys=revP l) (fun pre=>pre <+: revP l) (revP l).length w :=
 fun lab J Jx W hW hJ _ hY h0=>back_in n hn lab Bs bl w.heap.size v l w hl hlen hap J Jx W ⟨hW.size,fun j hj _=>hW.block j hj⟩ hJ hY hBs (World.block_lt_of_cell? w _ hBs) hB2 h0

theorem kp_b {bl n0:Nat} (W:World) (l:Nat) (o' : Obj) (hl:n0≤l):KpB bl n0 W (W.putObj l o'):=by
 refine ⟨by simp,fun j hj _=>World.putObj_heap_other fun e=>?_⟩
 omega

theorem ownFrom_size {β:Type} (B n0:Nat):OwnFrom B (fun (_:β) W=>n0≤W.heap.size):=fun _ _ _ _ hs hg _=>Nat.le_trans hs hg.size
theorem kp_app {W w2:World} {bl n0 n:Nat} {v v' u:Value} {xs:List Value} (hn0:n0≤W.heap.size) (hrow:W.ownsRow n0 3 1 v n xs) (hgrow:(W.alloc (.cells #[u] 3)).grownBy w2 v.ownBlock):KpB bl n0 W (w2.setCell ⟨bl,0,none⟩ v'):=by
 have hs:W.heap.size+1≤w2.heap.size:=by have:=hgrow.size;simpa using this
 refine ⟨by rw [TyD.size_set];omega,fun j hj hne=>?_⟩
 rw [Below.heap_setCell w2 ⟨bl,0,none⟩ v' j hne,hgrow.block j (by simp;omega) (fun e=>?_),Below.heap_alloc _ _ _ (by omega)]
 have:=(hrow.lt j e.symm).1
 omega
theorem row_set {w2:World} {bl n0 m:Nat} {v v' : Value} {ys:List Value} (hv:Boxed w2 bl 29 v) (ho:w2.ownsRow n0 3 1 v' m ys):(w2.setCell ⟨bl,0,none⟩ v').ownsRow n0 3 1 v' m ys :=
 ho.kept (grownBy_setCell' w2 bl v') (.inr (hv.not_row (by decide) ho).symm)

theorem order_yes (n:Nat) (hn:8≤n) (p:Px) (f:Int) (v:Value) (w:World) (hp:PrAt w v p) (htab:Tab w) (hs:Small p) (hok:POk p) (hz:findP p f=0) :
  CallsIn Fence.wide n Tryz.prog 95 #[v,.int .i64 f] w (LstN (ints (orderedL (blsP p f))) 0 w):=by
 have h1:1≤n:=by omega
 have hp0:=hp
 obtain ⟨vt,vf,rfl,ht,hf⟩:=hp
 have hbW:=alloc_below w (.cells #[vt,vf] 27)
 have hpW:=hp0.below hbW
 have HR:=hid (find_yes p f 0 _ _ hpW (htab.on hbW) hs hok (ask_first.trans hz))
 obtain ⟨ta,tc,rfl⟩:=ht.slice
 obtain ⟨fa,fc,rfl,_⟩:=hf.slice
 obtain ⟨hlow,hl0,hl16⟩:=low_fn hok hz
 have HKD:=hid (kinds_fn hok hz)
 have hc0:∀ c∈[0],c < (blsP p f).length:=fun c hc=>by rw [List.mem_singleton.1 hc];exact hl0
 have HBH:=hid (fun (vb u:Value) (w2:World) (h1:BlksAt w2 vb (blsP p f)) (h2:IntsAt w2 u (ints [0]))=>behind_calls (blsP p f) [0] vb u w2 hlow HKD.out (by omega) h1 hc0 (by simp) h2)
 have HBL:=hid (Nat.le_trans (behind_len hlow hc0) hl16)
 have HO:Hid (ints (orderedL (blsP p f))=(ints (behindL (blsP p f) [0])).reverse):=by
  show _=_
  rw [← behind_order,ints,ints,List.map_reverse]
 have HBW:=hid hbW
 clear ht hf hpW hbW hp0 hs hok htab hlow hl0 hl16 HKD hc0 hz
 generalize blsP p f=bls at *
 generalize p.types.length=n1 at *
 generalize p.funcs.length=n2 at *
 refine callsIn_of_wp_marks Tryz.func95 rfl trivial ?_ rfl
 simp only [Tryz.ntmps95,List.size_toArray,List.length_cons,List.length_nil,Nat.reduceAdd,Nat.reduceSub,Array.replicate_succ,Array.replicate_zero,List.push_toArray,List.append_toArray,List.nil_append,List.cons_append]
 gi_wp2_with fail
 refine ⟨trivial,?_⟩
 refine (callsIn_wide.2 HR.out).mono ?_
 rintro e w1 ⟨ao,c,rfl,hbl1,hb1⟩
 have HB1:=hid (HBW.out.trans (hb1.mono HBW.out.size))
 have HW1:=hid HB1.out.size
 have hs1:=hb1.size
 have hb2:Below w1.heap.size w1 ((w1.alloc (.cells #[.slice none 0 0] 29)).alloc (.cells #[.int .i64 0] 3)):=((Below.refl _ _).alloc (Nat.le_refl _) _).alloc (by simp) _
 have HC:=hid (HBH.out (.slice ao bls.length c) (.slice (some ⟨w1.heap.size+1,0,none⟩) 1 1) _ (hbl1.below blkStays hb2) (ints_lit_at (w1.alloc (.cells #[.slice none 0 0] 29)) (ints [0]) (w1.heap.size+1) 1 #[.int .i64 0] (by simp) rfl rfl (by simp [ints])))
 have HB2:=hid (HB1.out.trans (hb2.mono HB1.out.size))
 have hbx:=Boxed.new w1 29 (.slice none 0 0)
 have HBX:=hid (hbx.alloc (.cells #[.int .i64 0] 3))
 clear HR hbl1 hb1 hb2 HBH hbx HBW
 generalize behindL bls [0]=bh at *
 generalize bls.length=nb at *
 gi_wp2_with fail
 refine ⟨trivial,?_⟩
 refine (callsIn_wide.2 HC.out).mono ?_
 rintro e w3 ⟨u3,rfl,hu3,hb3⟩
 obtain ⟨ua,uc,rfl⟩:=own_slice hu3
 have HB3:=hid (HB2.out.trans (hb3.mono HB2.out.size))
 have HU:=hid hu3
 have HS3:Hid (w1.heap.size+1+1≤w3.heap.size):=by
  have:=hb3.size
  simp only [World.size_alloc] at this
  exact this
 have HX3:Hid (Boxed w3 w1.heap.size 29 (.slice none 0 0)):=(hb3.block _ HBX.out.lt).trans HBX.out
 clear HC hu3 hb3 HBX HB2 HB1
 gi_wp2_with fail
 refine ⟨trivial,?_⟩
 refine (fn_in _ _ _ _ _).mono ?_
 rintro e w4 ⟨rfl,hw4⟩
 subst hw4
 have hsz0:=HS3.out
 have hL4:IntsAt (w3.alloc (.cells #[.slice ua bh.length uc] 29)) (.slice ua bh.length uc) (ints bh):=by
  have:=(intsAt_of_owns HU.out (by rw [ints_length];have:=HBL.out;omega)).below (alloc_below w3 (.cells #[.slice ua bh.length uc] 29))
  exact this
 have hap:∀ g off k c,Value.slice ua bh.length uc=.slice (some ⟨g,off,none⟩) k c→g < (w3.alloc (.cells #[.slice ua bh.length uc] 29)).heap.size∧g≠w1.heap.size:=by
  intro g off k c e
  have h2:=HU.out.lt g (by rw [e];rfl)
  simp only [World.size_alloc] at h2 ⊢
  omega
 have hstops:=back_stops (n - 1) (by omega) w3.heap.size w1.heap.size _ (ints bh) _ hL4 (by rw [ints_length];have:=HBL.out;omega) hap (Boxed.new w3 29 (.slice ua bh.length uc)).cell (by omega)
 have hX4:=HX3.out.alloc (.cells #[.slice ua bh.length uc] 29)
 have hB4:=HB3.out.alloc HB3.out.size (.cells #[.slice ua bh.length uc] 29)
 have hsz4:w.heap.size≤(w3.alloc (.cells #[.slice ua bh.length uc] 29)).heap.size:=hB4.size
 have HSZ4:=hid hsz4
 have hbl:w.heap.size≤w1.heap.size:=HW1.out
 clear HX3 HB3 HU hsz0 hap hL4
 generalize w3.alloc (.cells #[.slice ua bh.length uc] 29)=W4 at *
 obtain ⟨i0,hi,hz0,hz1,hz2⟩:=info_parts info_int
 gi_wp2
 refine wpIn_rangeFunc_ownG rfl h1 (gf:=182) (lb:=#[.pointer (some ⟨w3.heap.size,0,none⟩)]) rfl trivial (enters_of Tryz.func182 (by kernel_rfl) rfl)
  hstops (fun {_ _ _} h k=>KpB.trans h k) (fun W l o o' hl _ _ _=>kp_b W l o' hl) (Below.refl _ _) (fun _=>rfl)
  (fun pre W=>(∃ u,Boxed W w1.heap.size 29 u∧W.ownsRow W4.heap.size 3 1 u pre.length (intVals (pre.map (·.2)))∧True)∧Below w.heap.size w W∧W4.heap.size≤W.heap.size)
  (fun _ _ _=>False)
  (OwnFrom.and (Own.from (holdsRow_own W4.heap.size w1.heap.size 29 3 1 (fun pre:List (Nat × Int)=>pre.length) (fun pre=>intVals (pre.map (·.2))) (fun _ _=>True)) _) (OwnFrom.and (ownFrom_below (Nat.le_refl _) hsz4) (ownFrom_size _ _)))
  (fun _ _ _ _ _ hs _ _=>hs)
  ⟨⟨_,hX4,World.ownsRow_nil _ _ _ _,trivial⟩,hB4,Nat.le_refl _⟩
  (fun x=>{ tmps:=#[.agg #[.slice ta n1 tc,.slice fa n2 fc],.int .i64 f,.pointer (some ⟨w.heap.size,0,none⟩),undef,.slice none 0 0,.int .i64 0,.slice ao nb c,.int .i64 0,.pointer (some ⟨w1.heap.size,0,none⟩),undef,.int .i64 x.2,.tuple #[.slice ao nb c,.int .i64 0],.agg #[.slice ta n1 tc,.slice fa n2 fc],.int .i64 f,.tuple #[.slice ao nb c,.int .i64 0],.slice ao nb c,.int .i64 0,.int .i64 0,.bool false,undef,.slice ao nb c,.slice (some ⟨w1.heap.size+1,0,none⟩) 1 1,.slice ua bh.length uc,.func (.func 182) #[] #[.pointer (some ⟨w3.heap.size,0,none⟩)],.int .i64 (x.1:Int),.int .i64 x.2,undef,undef,undef,undef,undef],defers:=[] }) ?assign ?body ?done ?stop
 case assign =>
  intro l x W K hK
  gi_wp2
  exact hK
 case body =>
  rintro l pre x W ⟨⟨u,hv,hown,_⟩,hB,hS⟩ hlt
  have hc:=hv.cell
  have hpl:pre.length≤1048576:=by rw [revP_length,ints_length] at hlt;have:=HBL.out;omega
  gi_wp2_with (gi_at_builtin;refine wpListIn_append_own _ rfl _ _ 29 rfl W4.heap.size 3 i0 (.int .i64 0) 1 8 Tryz.underlying29 hi hz0 hz1 hz2 rfl (by decide) _ _ _ rfl (hown.alloc _) ⟨W.heap.size,0,none⟩ 1 1 [.int .i64 x.2] rfl rfl (cell_one_new _ _ _) (by simp [Value.oneCell']) (by unfold maxLen;omega) (by omega) (by simp;omega) ?_;intro v' w2 hown' hgrow _;obtain ⟨g',cap',rfl⟩:=ownsRow_succ hown';obtain ⟨hv1,hv2,_,hk2,hb2⟩:=hv.appended (by decide) (owns_base hown hsz4) hB.size hbl (owns_base hown' hsz4) hgrow;have hr2:=row_set hv1 hown';have hkp:=kp_app (v':=.slice (some ⟨g',0,none⟩) (pre.length+1) cap') (bl:=w1.heap.size) hS hown hgrow;have hc1:=hv1.cell;have hf1:=hv1.frozen)
  exact ⟨hk2.from _,hkp,⟨_,hv2,by simpa [intVals] using hr2,trivial⟩,hB.trans hb2,Nat.le_trans hS hkp.1⟩
 case done =>
  rintro D ys W hD rfl ⟨⟨u,hv,hown,_⟩,hB,hS⟩ hK
  have hc:=hv.cell
  rw [revP_snd,← HO.out,revP_length,ints_length] at hown
  have HOWN:=hid hown
  obtain ⟨xa,xc,rfl⟩:=own_slice hown
  clear hown
  gi_wp2
  refine ⟨by simp,.inl ⟨_,_,rfl,run_takeDeferred hK,?_⟩⟩
  have hown2:=ownsRow_putObj HOWN.out (.deferred none) hK rfl
  have hlen:(ints (orderedL bls)).length=bh.length:=by rw [HO.out,List.length_reverse,ints_length]
  refine ⟨.tuple #[.slice xa bh.length xc,.int .i64 0],?_,_,rfl,newI_base (newI_of hown2 (by rw [hlen];have:=HBL.out;omega)) HSZ4.out,hB.trans (belowK_b (w:=W4) HSZ4.out W D _ _ hD hK rfl rfl)⟩
  simp [results,Tryz.f95,go_sem]
 case stop =>
  rintro D c pre W _ _ h _
  exact h.elim
theorem order_no (n:Nat) (hn:8≤n) (p:Px) (f:Int) (v:Value) (w:World) (hp:PrAt w v p) (htab:Tab w) (hs:Small p) (hok:POk p) (hz:findP p f≠0) :
  CallsIn Fence.wide n Tryz.prog 95 #[v,.int .i64 f] w (LstN [] (findP p f) w):=by
 have h1:1≤n:=by omega
 have hp0:=hp
 obtain ⟨vt,vf,rfl,ht,hf⟩:=hp
 have hbW:=alloc_below w (.cells #[vt,vf] 27)
 have HR:=hid (find_no p f 0 _ _ (hp0.below hbW) (htab.on hbW) hs hok)
 rw [ask_first] at HR
 obtain ⟨ta,tc,rfl⟩:=ht.slice
 obtain ⟨fa,fc,rfl,_⟩:=hf.slice
 have e0:(findP p f != 0)=true:=by simpa using hz
 have HBW:=hid hbW
 clear ht hf hbW hp0 hs hok htab hz
 generalize findP p f=fe at *
 generalize p.types.length=n1 at *
 generalize p.funcs.length=n2 at *
 refine callsIn_of_wp_marks Tryz.func95 rfl trivial ?_ rfl
 simp only [Tryz.ntmps95,List.size_toArray,List.length_cons,List.length_nil,Nat.reduceAdd,Nat.reduceSub,Array.replicate_succ,Array.replicate_zero,List.push_toArray,List.append_toArray,List.nil_append,List.cons_append]
 gi_wp2_with fail
 refine ⟨trivial,?_⟩
 refine (callsIn_wide.2 HR.out).mono ?_
 rintro e w1 ⟨ao,m,c,rfl,hb1⟩
 have HE:=hid (HBW.out.trans (hb1.mono HBW.out.size))
 clear HR hb1
 gi_wp2
 refine ⟨.tuple #[.slice none 0 0,.int .i64 fe],?_,_,rfl,newI_none _ _,HE.out⟩
 simp [results,Tryz.f95,go_sem]

theorem order_c:OrderC:=by
 intro p f v w hp htab hs hok _
 by_cases hz:findP p f=0
 ·have h:=callsIn_wide.1 (order_yes 8 (Nat.le_refl _) p f v w hp htab hs hok hz)
  have e:orderA p f=ints (orderedL (blsP p f)):=by unfold orderA;rw [if_pos hz]
  rw [e,hz]
  exact h
 ·have h:=callsIn_wide.1 (order_no 8 (Nat.le_refl _) p f v w hp htab hs hok hz)
  have e:orderA p f=[]:=by unfold orderA;rw [if_neg hz]
  rw [e]
  exact h
end Go.Proofs.YtpejpnffcepdlaaGreatDoor.FkO
namespace Go.Proofs.YtpejpnffcepdlaaGreatDoor.DmF
open Go.RowKit Go.Lib SetP IntO TyM TyP TyB TyC ShM ShP ShA ShB ShC ShE ShI ShJ Aft FwM FwC FwP FwQ FwR FwK FkN FkS FkC IntG FdM FdQ DmM DmX DmN DmI DmR

def RulOk (bl:List Bx) (l:List Nat):Prop:=∃ pr,Env (succ bl) bl.length (orderedL bl) pr∧Inv (succ bl) (orderedL bl) pr l∧Still (orderedL bl) pr l
def FindD (p:Px) (f a b:Int) (w:World) (e:Ending) (w' : World):Prop:=∃ l,e=.returned (.tuple #[rulV l,.int .i64 (rulesE p f a b)])∧l.length=16∧(rulesE p f a b=0→RulOk (blsP p f) l)∧Below w.heap.size w w'
def zeros:List Nat:=List.replicate 16 0
theorem build_zeros (w:World):(Instr.build 111 #[]).run Tryz.prog w=.ok (.agg (uV zeros).toArray) w:=run_build w _ _ _ (by kernel_rfl)
theorem wpList_build {P:Program} {ops:Array Oper} {rest:List Oper} {op:Oper} {a:Act} {w:World} {Q:Exit→Act→World→Prop} (hgd:op.guard=none) (ty:TypeId) (ho:op.op=.build ty #[]) (cells:Array Value)
  (hb:(Instr.build ty #[]).run P w=.ok (.agg cells) w) (h:wpList P ops Q rest (a.put op.dst (.agg cells)) w):wpList P ops Q (op :: rest) a w :=
 wpList_plain hgd fun _ hK=>by
  unfold Oper.wp execOp
  simp only [ho,List.map_toArray,List.map_nil,Sem.run_bind,Sem.run_pure,hb,Result.andThen_ok]
  exact hK _ _ h
theorem res_out {w W wr:World} {l:List Nat} {cs:Array Value} (hb:Below w.heap.size w W) (hp:W.heap[w.heap.size+1]?=some (.cells cs 111 (0,0))) (hcs:cs.size=16) (ha:Aft W wr) (hl:l.length=16) :
  wr.there (w.heap.size+1) 0 (uV l).toArray.size∧(Tryz.prog.info? 111).map (·.size)=some (uV l).toArray.size∧Below w.heap.size w (wr.setCells (w.heap.size+1) 0 (uV l)) ∧
  (loadVar 111 ⟨w.heap.size+1,0,none⟩).run Tryz.prog (wr.setCells (w.heap.size+1) 0 (uV l))=.ok (rulV l) (wr.setCells (w.heap.size+1) 0 (uV l)):=by
 have hth:wr.there (w.heap.size+1) 0 16:=there_of (later_heap hp wr ha) hcs
 have hn:(uV l).length=16:=by rw [uV_length,hl]
 refine ⟨by rw [show (uV l).toArray.size=16 by simp [hn]];exact hth,by rw [infoR hl];simp,below_setCells (by omega) _ 0 (ha.out hb),?_⟩
 exact run_loadVar_mid _ _ _ _ (uV l) _ (World.rangeAt_setCells_same wr (w.heap.size+1) 0 (uV l) (by rw [hn];exact hth)) underR rfl (infoR hl)

theorem newI_set {w:World} {q i:Nat} {x v:Value} {l:List Int} (h:NewI (q+1) w v l):NewI (q+1) (w.setCell ⟨q,i,none⟩ x) v l:=by
 obtain ⟨⟨ao,cap,rfl,hl,hm,hz⟩,hn⟩:=h
 refine ⟨⟨ao,cap,rfl,hl,fun h0=>?_,hz⟩,hn⟩
 obtain ⟨b,off,rfl,hb,hc⟩:=hm h0
 have hq:=hn b off _ _ rfl
 refine ⟨b,off,rfl,by rw [TyD.size_set];exact hb,fun i hi=>?_⟩
 rw [World.cell?_setCell_other]
 ·exact hc i hi
 ·intro e
  have:q=b:=congrArg Addr.block e
  omega
structure Pre (W:World) (q:Nat) (ord:List Nat) (pr:Nat→List Nat) (j:Nat) (wr:World):Prop where
 aft:Aft W wr
 old:W.heap.size≤q
 row:∃ pvs:List Value,pvs.length=16∧wr.heap[q]?=some (.cells pvs.toArray 154 (0,0))∧∀ i,i < j→∀ b,ord[i]?=some b→∃ u,pvs[b]?=some u∧NewI (q+1) wr u (ints (pr b))
theorem Pre.step {W wr w' : World} {q j b:Nat} {ord:List Nat} {pr:Nat→List Nat} {u:Value} (h:Pre W q ord pr j wr) (hb:Below wr.heap.size wr w') (hj:ord[j]?=some b) (hb16:b < 16) (hu:NewI (q+1) w' u (ints (pr b))):Pre W q ord pr (j+1) (w'.setCell ⟨q,b,none⟩ u):=by
 obtain ⟨pvs,hl,hr,hall⟩:=h.row
 refine ⟨(h.aft.go hb).set h.old u,h.old,pvs.set b u,by rw [List.length_set];exact hl,?_,fun i hi c hc=>?_⟩
 ·have:=ShTB.set_heap' (i:=b) u ((hb.block q (Array.getElem?_eq_some_iff.1 hr).1).trans hr)
  rw [List.setIfInBounds_toArray] at this
  exact this
 ·by_cases e:c=b
  ·subst e
   exact ⟨u,by rw [List.getElem?_set_self (by omega)],newI_set hu⟩
  ·have hij:i < j:=by
    rcases Nat.lt_or_ge i j with h | h
    ·exact h
    ·have:i=j:=by omega
     rw [this,hj] at hc
     exact absurd (Option.some.inj hc).symm e
   obtain ⟨x,hx,hxn⟩:=hall i hij c hc
   exact ⟨x,by rw [List.getElem?_set_ne (fun h=>e h.symm)];exact hx,newI_set (hxn.below hb)⟩
theorem env_of {bl:List Bx} (h:Low bl) (h0:0 < bl.length) (h16:bl.length≤16):Env (succ bl) bl.length (orderedL bl) (aheadL bl) :=
 ⟨order_mem h0 (succ_lt h),fun _ _ _=>ahead_mem,succ_lt h,h0,h16⟩
theorem order_le {bl:List Bx} (h:Low bl) (h0:0 < bl.length):(orderedL bl).length≤bl.length:=by
 rw [order_len h h0]
 unfold reachedL
 have:=List.length_filter_le (fun i=>has (comeO (succ bl) (-1) bl.length [0]) i) (List.range bl.length)
 rw [List.length_range] at this
 exact this
theorem infoP {l:List Value} (h:l.length=16):(Tryz.prog.info? 154).map (·.size)=some l.length:=by
 rw [h]
 kernel_rfl
theorem underP:Tryz.prog.underlying 154=some (.array 16 29):=by kernel_rfl
theorem find_d (p:Px) (f a b:Int) (v:Value) (w:World) (hp:PrAt w v p) (htab:Tab w) (hs:Small p) (hok:POk p) (hf64:I64 f) :
  Calls Tryz.prog 55 #[v,.int .i64 f,.int .i64 a,.int .i64 b] w (FindD p f a b w):=by
 have hp0:=hp
 obtain ⟨vt,vf,rfl,ht,hf⟩:=hp
 obtain ⟨W0,hW0⟩:∃ W0,W0=w.alloc (.cells #[vt,vf] 27):=⟨_,rfl⟩
 have hb0:Below w.heap.size w W0:=by rw [hW0];exact alloc_below _ _
 have s0:W0.heap.size=w.heap.size+1:=by rw [hW0];simp
 have k0:W0.heap[w.heap.size]?=some (.cells #[vt,vf] 27 (0,0)):=by rw [hW0];exact alloc_new _ _
 obtain ⟨W,hW⟩:∃ W,W=W0.alloc (.cells (uV zeros).toArray 111):=⟨_,rfl⟩
 have hbW:Below w.heap.size w W:=by rw [hW];exact hb0.alloc (by omega) _
 have haW:Aft W0 W:=by rw [hW];exact (Aft.refl _).alloc _
 have k1:W.heap[w.heap.size]?=some (.cells #[vt,vf] 27 (0,0)):=later_heap k0 W haW
 have k2:W.heap[w.heap.size+1]?=some (.cells (uV zeros).toArray 111 (0,0)):=by rw [hW,← s0];exact alloc_new _ _
 have hpW:=hp0.below hbW
 have HOR:=hid (FkO.order_c p f _ W hpW (htab.on hbW) hs hok hf64)
 have HFN:=hid (fun (k:Nat) (x:Fx) (h1:Has1 p f k x)=>fn_later (hf.below fnStays hbW) h1)
 have HPR:=hid (fun (j:Nat) (hj:(j:Int)≤1000) wx (hx:Aft W wx)=>FkV.preds_c p f j _ wx (hpW.below hx) ((htab.on hbW).on hx) hs hok hf64 ⟨by omega,by omega⟩)
 obtain ⟨ta,tc,rfl⟩:=ht.slice
 obtain ⟨fa,fc,rfl,_⟩:=hf.slice
 have l0:=later_cells k1 0 _ rfl;have l1:=later_cells k1 1 _ rfl
 have HRES:=hid (fun (l:List Nat) (wr:World) (ha:Aft W wr) (hl:l.length=16)=>res_out hbW k2 (by simp [uV_length,zeros]) ha hl)
 have HBW:=hid hbW
 have HW:Hid (W=(w.alloc (.cells #[.slice ta p.types.length tc,.slice fa p.funcs.length fc] 27)).alloc (.cells #[.int .u32 0,.int .u32 0,.int .u32 0,.int .u32 0,.int .u32 0,.int .u32 0,.int .u32 0,.int .u32 0,.int .u32 0,.int .u32 0,.int .u32 0,.int .u32 0,.int .u32 0,.int .u32 0,.int .u32 0,.int .u32 0] 111)):=by
  show _=_
  rw [hW,hW0]
  rfl
 have h0:=Aft.refl W
 clear ht hf hpW hbW hW hW0 hb0 s0 k0 haW k1 k2 hp0 hs htab hf64
 by_cases hz:findP p f=0
 rotate_left
 ·have HE:Hid (rulesE p f a b=findP p f):=by
   show _=_
   unfold rulesE
   rw [ask_find hz,if_pos hz]
  have HF:Hid (∀ w',Below w.heap.size w w'→FindD p f a b w (.returned (.tuple #[.agg (uV zeros).toArray,.int .i64 (rulesE p f a b)])) w'):=by
   show ∀ w',_
   intro w' h
   exact ⟨zeros,rfl,rfl,fun e=>absurd (HE.out.symm.trans e) hz,h⟩
  have e0:(findP p f != 0)=true:=by simpa using hz
  clear HFN HPR hz hok
  rw [HE.out] at HF
  generalize orderA p f=oa at *
  generalize findP p f=fe at *
  generalize p.types.length=n1 at *
  generalize p.funcs.length=n2 at *
  go_enter Tryz.func55,Tryz.ntmps55
  go_wp2_with fail
  rw [← HW.out]
  refine HOR.out.mono ?_
  rintro e w1 ⟨u,rfl,_,hb1⟩
  have h1:=h0.go hb1
  obtain ⟨r1,r2,r3,r4⟩:=HRES.out zeros w1 h1 rfl
  have hoc:=one_cells zeros
  have HBZ:=hid (build_zeros w1)
  have R1:=hid r1;have R2:=hid r2;have R3:=hid r3;have R4:=hid (show (loadVar 111 ⟨w.heap.size+1,0,none⟩).run Tryz.prog (w1.setCells (w.heap.size+1) 0 (uV zeros))=.ok (.agg (uV zeros).toArray) (w1.setCells (w.heap.size+1) 0 (uV zeros)) from r4)
  clear HOR hb1 r1 r2 r3 r4 HRES
  go_upto_region 3 with fail
  have HOC:=hid hoc
  clear hoc
  generalize uV zeros=zl at *
  go_wp2_with (first | refine wpList_build rfl 111 rfl _ HBZ.out ?_ | refine wpList_store_mid rfl 111 _ _ rfl (w.heap.size+1) 0 _ rfl rfl R1.out R2.out HOC.out ?_)
  exact bodyPost_ret (v:=.tuple #[.agg zl.toArray,.int .i64 fe]) (by rw [results_cell_tmp rfl];simp [asAddr,Result.andThen,R4.out]) rfl (HF.out _ R3.out)
 obtain ⟨k,x,h1⟩:=has1 hz
 obtain ⟨fb,foff,fcap,ao,bc,he,d0,d1,hbl0⟩:=HFN.out k x h1
 cases he
 obtain ⟨hlow,hl0,hl16⟩:=low_fn hok hz
 have hbp:=fn_blocks h1
 have hkl:=h1.lt
 have hke:=h1.eq
 have HOA:Hid (orderA p f=ints (orderedL (blsP p f))):=by show _=_;unfold orderA;rw [if_pos hz]
 have HE2:Hid (lowB ((blsP p f).length:Int) [a,b]=false→rulesE p f a b=2):=by
  show _→_
  intro h
  unfold rulesE
  by_cases ha:0≤a∧a < (blsP p f).length
  ·have hb:¬ (0≤b∧b < (blsP p f).length):=by
    intro hb
    have:lowB ((blsP p f).length:Int) [a,b]=true:=by
     rw [lowB_iff]
     intro n hn
     simp only [List.mem_cons,List.not_mem_nil,or_false] at hn
     rcases hn with rfl | rfl
     ·exact ha
     ·exact hb
    rw [this] at h;cases h
   rw [ask_yes hz ha.1 ha.2,if_neg (by decide),askR_bad (by rw [ask_no hz hb];decide),ask_no hz hb]
  ·rw [ask_no hz ha,if_pos (by decide)]
 have HIN:Hid (lowB ((blsP p f).length:Int) [a,b]=true→(0≤a∧a < (blsP p f).length)∧(0≤b∧b < (blsP p f).length)):=by
  show _→_
  intro h
  have:=lowB_iff.1 h
  exact ⟨this a (by simp),this b (by simp)⟩
 have HE6:Hid (lowB ((blsP p f).length:Int) [a,b]=true→b.toNat∉reachedL (blsP p f)→rulesE p f a b=6):=by
  show _→_
  intro h hr
  obtain ⟨h1,h2⟩:=HIN.out h
  unfold rulesE
  rw [ask_yes hz h1.1 h1.2,if_neg (by decide),askR_out (ask_yes hz h2.1 h2.2) hr]
 have HE0:Hid (lowB ((blsP p f).length:Int) [a,b]=true→b.toNat∈reachedL (blsP p f)→rulesE p f a b=0):=by
  show _→_
  intro h hr
  obtain ⟨h1,h2⟩:=HIN.out h
  unfold rulesE
  rw [ask_yes hz h1.1 h1.2,if_neg (by decide),askR_in (ask_yes hz h2.1 h2.2) hr]
 have HFZ:Hid (∀ w' er,er≠0→rulesE p f a b=er→Below w.heap.size w w'→FindD p f a b w (.returned (.tuple #[.agg (uV zeros).toArray,.int .i64 er])) w'):=by
  show ∀ w' er,_
  intro w' er hne he h
  subst he
  exact ⟨zeros,rfl,rfl,fun e=>absurd e hne,h⟩
 have HFY:Hid (∀ w' l,rulesE p f a b=0→l.length=16→RulOk (blsP p f) l→Below w.heap.size w w'→FindD p f a b w (.returned (.tuple #[.agg (uV l).toArray,.int .i64 0])) w'):=by
  show ∀ w' l,_
  intro w' l he hl hr h
  exact ⟨l,by rw [he];rfl,hl,fun _=>hr,h⟩
 have HPA:=hid (fun (j:Nat) (hj:j < (blsP p f).length)=>show predsA p f j=ints (aheadL (blsP p f) j)∧askB p f j=0 by
  have hj0:askB p f j=0:=ask_yes hz (by omega) (by omega)
  refine ⟨?_,hj0⟩
  unfold predsA
  rw [if_pos hj0,Int.toNat_natCast])
 have HRM:=hid (fun (v:Nat)=>show v∈orderedL (blsP p f)↔v∈reachedL (blsP p f) from (order_mem hl0 (succ_lt hlow) v).trans (reached_mem hlow hl0 v).symm)
 have HCT:Hid (0≤b→(ints (orderedL (blsP p f))).contains b=decide (b.toNat∈reachedL (blsP p f))):=by
  show _→_
  intro hb
  rw [Bool.eq_iff_iff,List.contains_iff_mem,decide_eq_true_iff,← HRM.out]
  obtain ⟨j,rfl⟩:∃ j:Nat,b=j:=⟨b.toNat,by omega⟩
  rw [Int.toNat_natCast]
  exact ints_mem
 have HLOW:=hid hlow
 have HL0:=hid hl0
 have HL16:=hid hl16
 rw [HOA.out] at HOR
 rw [hz] at HOR
 generalize hX:blsP p f=Y at *
 subst hbp
 have HX:=hid hX
 clear hX
 have HBLN:=hid (fun (u:Value) (wx:World) (hv:IntsAt wx u [a,b])=>DmN.below_calls (x.blocks.length:Int) u [a,b] wx hv)
 clear hz h1 hbl0 HFN hlow hl0 hl16 hok
 subst hke
 obtain ⟨sg,bl⟩:=x
 simp only at *
 generalize hlw:lowB (bl.length:Int) [a,b]=lw at *
 clear hlw
 have hkn:(k:Int) < p.funcs.length:=by omega
 generalize p.types.length=n1 at *
 generalize p.funcs.length=n2 at *
 go_enter Tryz.func55,Tryz.ntmps55
 go_wp2_with fail
 rw [← HW.out]
 refine HOR.out.mono ?_
 rintro e w1 ⟨u,rfl,hu,hb1⟩
 have h1:=h0.go hb1
 obtain ⟨ua,uc,rfl,hum⟩:=ints_slice hu.1
 rw [ints_length] at *
 have HU:=hid hu.1
 clear HOR hb1 hu
 have hab:=ints_lit w1 [a,b] 2 #[.int .i64 a,.int .i64 b] rfl rfl (by simp)
 have HC:=hid (HBLN.out _ _ hab)
 have HC1:=hid ((h1.alloc (.cells #[.int .i64 a,.int .i64 b] 3)))
 clear hab HBLN
 cases lw with
 | false =>
  have HE:=hid (HE2.out rfl)
  clear HE2 HIN HE6 HE0 HFY HPA HCT
  go_wp2_with fail
  refine HC.out.mono ?_
  rintro e w2 ⟨rfl,hb2⟩
  have h2:=HC1.out.go hb2
  obtain ⟨r1,r2,r3,r4⟩:=HRES.out zeros w2 h2 rfl
  have hoc:=one_cells zeros
  have HF:=hid (HFZ.out _ 2 (by decide) HE.out r3)
  have HBZ:=hid (build_zeros w2)
  have R1:=hid r1;have R2:=hid r2;have R4:=hid (show (loadVar 111 ⟨w.heap.size+1,0,none⟩).run Tryz.prog (w2.setCells (w.heap.size+1) 0 (uV zeros))=.ok (.agg (uV zeros).toArray) (w2.setCells (w.heap.size+1) 0 (uV zeros)) from r4)
  have HOC:=hid hoc
  clear HC HC1 hb2 r1 r2 r3 r4 HRES HFZ HE hoc
  generalize uV zeros=zl at *
  go_wp2_with (first | refine wpList_build rfl 111 rfl _ HBZ.out ?_ | refine wpList_store_mid rfl 111 _ _ rfl (w.heap.size+1) 0 _ rfl rfl R1.out R2.out HOC.out ?_)
  exact bodyPost_ret (v:=.tuple #[.agg zl.toArray,.int .i64 2]) (by rw [results_cell_tmp rfl];simp [asAddr,Result.andThen,R4.out]) rfl HF.out
 | true =>
  obtain ⟨⟨a0,a1⟩,b0,b1⟩:=HIN.out rfl
  have HE60:=hid (HE6.out rfl)
  have HE00:=hid (HE0.out rfl)
  clear HE6 HE0
  have hct:=HCT.out b0
  go_wp2_with fail
  refine HC.out.mono ?_
  rintro e w2 ⟨rfl,hb2⟩
  have h2:=HC1.out.go hb2
  have HU2:=hid ((HU.out.below (alloc_below w1 (.cells #[.int .i64 a,.int .i64 b] 3))).below hb2)
  have HCN:=hid (contains_calls _ _ b w2 HU2.out)
  rw [hct] at HCN
  clear HC HC1 hb2 HIN hct HCT HE2 HU
  by_cases hr:b.toNat∈reachedL bl
  rotate_left
  ·have HE:=hid (HE60.out hr)
   rw [decide_eq_false hr] at HCN
   clear hr HE60 HE00 HFY HPA HRM
   generalize ints (orderedL bl)=ol at *
   go_wp2_with fail
   refine HCN.out.mono ?_
   rintro e w3 ⟨rfl,rfl⟩
   obtain ⟨r1,r2,r3,r4⟩:=HRES.out zeros w2 h2 rfl
   have hoc:=one_cells zeros
   have HF:=hid (HFZ.out _ 6 (by decide) HE.out r3)
   have HBZ:=hid (build_zeros w2)
   have R1:=hid r1;have R2:=hid r2;have R4:=hid (show (loadVar 111 ⟨w.heap.size+1,0,none⟩).run Tryz.prog (w2.setCells (w.heap.size+1) 0 (uV zeros))=.ok (.agg (uV zeros).toArray) (w2.setCells (w.heap.size+1) 0 (uV zeros)) from r4)
   have HOC:=hid hoc
   clear HCN r1 r2 r3 r4 HRES HFZ HE hoc
   generalize uV zeros=zl at *
   go_wp2_with (first | refine wpList_build rfl 111 rfl _ HBZ.out ?_ | refine wpList_store_mid rfl 111 _ _ rfl (w.heap.size+1) 0 _ rfl rfl R1.out R2.out HOC.out ?_)
   exact bodyPost_ret (v:=.tuple #[.agg zl.toArray,.int .i64 6]) (by rw [results_cell_tmp rfl];simp [asAddr,Result.andThen,R4.out]) rfl HF.out
  ·have HE:=hid (HE00.out hr)
   rw [decide_eq_true hr] at HCN
   clear HE60 HE00 hr HFZ
   go_wp2_with fail
   refine HCN.out.mono ?_
   rintro e w3 ⟨rfl,rfl⟩
   clear HCN
   obtain ⟨W3,hW3⟩:∃ W3,W3=w2.alloc (.cells (List.replicate 16 (.slice none 0 0)).toArray 154):=⟨_,rfl⟩
   have hp3:Pre w2 w2.heap.size (orderedL bl) (aheadL bl) 0 W3:=by
    refine ⟨by rw [hW3];exact (Aft.refl _).alloc _,Nat.le_refl _,_,List.length_replicate,by rw [hW3];exact alloc_new _ _,fun i hi=>by omega⟩
   have HW3:Hid (W3=w2.alloc (.cells #[.slice none 0 0,.slice none 0 0,.slice none 0 0,.slice none 0 0,.slice none 0 0,.slice none 0 0,.slice none 0 0,.slice none 0 0,.slice none 0 0,.slice none 0 0,.slice none 0 0,.slice none 0 0,.slice none 0 0,.slice none 0 0,.slice none 0 0,.slice none 0 0] 154)):=by show _=_;rw [hW3];rfl
   have HH2:=hid h2
   clear h2 hW3
   go_wp2_with fail
   rw [← HW3.out]
   go_loopg [14,45] (orderedL bl).length (fun gk _ i wr=>∃ j:Nat,j+gk=(orderedL bl).length∧i=.int .i64 j∧Pre w2 w2.heap.size (orderedL bl) (aheadL bl) j wr)
   case atStart=>exact ⟨0,by omega,rfl,hp3⟩
   case round =>
    obtain ⟨j,hj,rfl,hr⟩:=hrel
    have HJ:=hid hj
    have HR:=hid hr
    have hw:=HH2.out.trans hr.aft
    clear hj hr
    by_cases hlt:j < (orderedL bl).length
    ·obtain ⟨c,hc⟩:=some_at hlt
     have hcl:c < bl.length:=by
      have:=(HRM.out c).1 (List.mem_of_getElem? hc)
      exact ((reached_mem HLOW.out HL0.out c).1 this).lt (succ_lt HLOW.out) HL0.out
     obtain ⟨g,off,rfl,c0⟩:=nat_at (HU2.out.below HR.out.aft) hc
     obtain ⟨e1,e2⟩:=HPA.out c hcl
     have HP:=hid (HPR.out c (by have:=HL16.out;omega) wr hw)
     rw [e1,e2] at HP
     have hc16:c < 16:=by have:=HL16.out;omega
     have hcn:(c:Int) < 16:=by omega
     have hjn:(j:Int) < (orderedL bl).length:=by omega
     have HC:=hid hc
     obtain ⟨pvs,hl,hrow,_⟩:=HR.out.row
     have h3:=Aft.refl wr
     have HROW:=hid hrow
     have HPL:=hid hl
     clear e1 e2 hc hrow hl
     go_wp2_with fail
     refine HP.out.mono ?_
     rintro e w4 ⟨u4,rfl,hu4,hb4⟩
     have hw4:=hw.go hb4
     obtain ⟨va,vc,rfl,_⟩:=ints_slice hu4.1
     rw [ints_length] at *
     have hrow4:=later_heap HROW.out w4 hb4
     have q1:w4.cell? ⟨w2.heap.size,c,none⟩=some (pvs[c]'(by rw [HPL.out];exact hc16)):=(ShTB.cells_heap hrow4).1 c (by simp [HPL.out];exact hc16)
     have q2:=(ShTB.cells_heap hrow4).2 c
     have HN:=hid (HR.out.step hb4 HC.out hc16 (newI_base hu4 (Nat.succ_le_of_lt (Array.getElem?_eq_some_iff.1 HROW.out).1)))
     clear HP hu4 hb4 hrow4
     generalize pvs[c]'(by rw [HPL.out];exact hc16)=z at *
     go_wp2
     go_roundg (gk - 1)
     case measure=>have:=HJ.out;omega
     case rel=>exact ⟨j+1,by have:=HJ.out;omega,by go_num,HN.out⟩
    ·obtain rfl:j=(orderedL bl).length:=by have:=HJ.out;omega
     obtain ⟨pvs,hl,hrow,hall⟩:=HR.out.row
     have HRU:=hid (rule_calls (succ bl) bl.length (orderedL bl) (aheadL bl) (env_of HLOW.out HL0.out HL16.out) _ pvs wr (HU2.out.below HR.out.aft) order_head (Nat.le_trans (order_le HLOW.out HL0.out) HL16.out) (order_nodup HL0.out (succ_lt HLOW.out))
      (fun b hb=>by
       obtain ⟨i,hi,e⟩:=List.getElem_of_mem hb
       obtain ⟨u,hu,hn⟩:=hall i hi b (by rw [List.getElem?_eq_getElem hi,e])
       exact ⟨u,hu,hn.1⟩))
     have HRG:Hid (wr.rangeAt w2.heap.size 0 pvs):=by
      show World.rangeAt _ _ _ _
      intro j v hj
      have:=later_cells hrow j v (by rw [List.getElem?_toArray];exact hj) wr (Aft.refl wr)
      rw [Nat.zero_add]
      exact this
     have HIP:=hid (infoP hl)
     have HUP:=hid underP
     have HEN:=hid (env_of HLOW.out HL0.out HL16.out)
     clear hl hrow hall HPR HPA HJ hlt
     go_wp2_with (first | refine wpList_load_mid rfl 154 _ rfl w2.heap.size 0 rfl pvs _ HRG.out HUP.out rfl HIP.out ?_)
     refine HRU.out.mono ?_
     rintro e w4 ⟨l,rfl,hinv,hst,hb4⟩
     have h4:=(HH2.out.trans HR.out.aft).go hb4
     obtain ⟨r1,r2,r3,r4⟩:=HRES.out l w4 h4 hinv.len
     have hoc:=one_cells l
     have HF:=hid (HFY.out _ l HE.out hinv.len ⟨_,HEN.out,hinv,hst⟩ r3)
     have R1:=hid r1;have R2:=hid r2;have R4:=hid (show (loadVar 111 ⟨w.heap.size+1,0,none⟩).run Tryz.prog (w4.setCells (w.heap.size+1) 0 (uV l))=.ok (.agg (uV l).toArray) (w4.setCells (w.heap.size+1) 0 (uV l)) from r4)
     have HOC:=hid hoc
     clear HRU hb4 r1 r2 r3 r4 HRES HFY HE hoc h4 hinv hst HRG HUP HIP HEN
     unfold rulV
     generalize uV l=zl at *
     go_wp2_with (refine wpList_store_mid rfl 111 _ _ rfl (w.heap.size+1) 0 _ rfl rfl R1.out R2.out HOC.out ?_)
     exact bodyPost_ret (v:=.tuple #[.agg zl.toArray,.int .i64 0]) (by rw [results_cell_tmp rfl];simp [asAddr,Result.andThen,R4.out]) rfl HF.out
end Go.Proofs.YtpejpnffcepdlaaGreatDoor.DmF
namespace Go.Proofs.YtpejpnffcepdlaaGreatDoor.DmC
open Go.RowKit Go.Lib SetP IntO TyM TyP TyB TyC ShM ShP ShA ShB ShC ShE ShI ShJ Aft FwM FwC FwP FwQ FwR FwK FkN FkS FkC IntG FdM FdQ FdK DmM DmX DmN DmI DmR DmF

theorem rul_next {bl:List Bx} {l:List Nat} (h:RulOk bl l) (hlow:Low bl) (h0:0 < bl.length) {b:Nat} {r:Int} (hr:NextIs l b r):r=if b∈reachedL bl then rulerL bl b else -1:=by
 obtain ⟨pr,he,hi,hs⟩:=h
 by_cases hb:b∈reachedL bl
 ·rw [if_pos hb]
  have hbc:=(reached_mem hlow h0 b).1 hb
  by_cases hz:b=0
  ·subst hz
   rw [ruler_zero hlow h0]
   exact hi.next_zero hr
  ·obtain ⟨a,ha,hn⟩:=ruler_some hlow h0 hbc hz
   rw [ha]
   exact hi.next_is he hs hn hr
 ·rw [if_neg hb]
  exact hi.next_out (fun h=>hb ((reached_mem hlow h0 b).2 ((he.mem b).1 h))) hr
theorem fresh_arr (w1:World) (l:List Nat) (hl:l.length=16):(w1.alloc (.cells #[.int .u32 0,.int .u32 0,.int .u32 0,.int .u32 0,.int .u32 0,.int .u32 0,.int .u32 0,.int .u32 0,.int .u32 0,.int .u32 0,.int .u32 0,.int .u32 0,.int .u32 0,.int .u32 0,.int .u32 0,.int .u32 0] 111)).there w1.heap.size 0 (uV l).toArray.size∧(Tryz.prog.info? 111).map (·.size)=some (uV l).toArray.size ∧
  ∃ W5,W5=(w1.alloc (.cells #[.int .u32 0,.int .u32 0,.int .u32 0,.int .u32 0,.int .u32 0,.int .u32 0,.int .u32 0,.int .u32 0,.int .u32 0,.int .u32 0,.int .u32 0,.int .u32 0,.int .u32 0,.int .u32 0,.int .u32 0,.int .u32 0] 111)).setCells w1.heap.size 0 (uV l)∧Aft w1 W5∧W5.rangeAt w1.heap.size 0 (uV l)∧w1.heap.size < W5.heap.size:=by
 have hn:(uV l).length=16:=by rw [uV_length,hl]
 have hth:(w1.alloc (.cells #[.int .u32 0,.int .u32 0,.int .u32 0,.int .u32 0,.int .u32 0,.int .u32 0,.int .u32 0,.int .u32 0,.int .u32 0,.int .u32 0,.int .u32 0,.int .u32 0,.int .u32 0,.int .u32 0,.int .u32 0,.int .u32 0] 111)).there w1.heap.size 0 16:=there_of (alloc_new w1 _) rfl
 refine ⟨by rw [show (uV l).toArray.size=16 by simp [hn]];exact hth,by rw [infoR hl];simp,_,rfl,below_setCells (Nat.le_refl _) _ 0 ((Aft.refl w1).alloc _),World.rangeAt_setCells_same _ _ _ _ (by rw [hn];exact hth),?_⟩
 have:=(below_setCells (B:=0) (Nat.zero_le w1.heap.size) (uV l) 0 (Below.refl 0 (w1.alloc (.cells #[.int .u32 0,.int .u32 0,.int .u32 0,.int .u32 0,.int .u32 0,.int .u32 0,.int .u32 0,.int .u32 0,.int .u32 0,.int .u32 0,.int .u32 0,.int .u32 0,.int .u32 0,.int .u32 0,.int .u32 0,.int .u32 0] 111)))).size
 simp only [World.size_alloc] at this
 omega
theorem rulesE_same (p:Px) (f b:Int):rulesE p f b b=askR p f b:=by
 unfold rulesE
 by_cases h:askB p f b=0
 ·rw [if_neg (fun e=>e h)]
 ·rw [if_pos h,askR_bad h]
end Go.Proofs.YtpejpnffcepdlaaGreatDoor.DmC
namespace Go.Proofs.YtpejpnffcepdlaaGreatDoor.DmE
open Go.RowKit Go.Lib SetP IntO TyM TyP TyB TyC ShM ShP ShA ShB ShC ShE ShI ShJ Aft Fresh FwM FwC FwP FwQ FwR FwO FwK FkN FkS FkC IntG FdM FdQ FdK DmM DmX DmN DmI DmR DmF DmC

theorem rulesE_first {p:Px} (ho:POk p) (f:Int):rulesE p f 0 0=findP p f:=by
 rw [rulesE_same]
 by_cases h:findP p f=0
 ·rw [reach_zero ho h,h]
 ·rw [askR_bad (by rw [ask_first];exact h),ask_first]
def allN (bl:List Bx) (b:Nat):Int:=if b∈reachedL bl then rulerL bl b else -1
theorem allL_len (bl:List Bx):(allL bl).length=bl.length:=by unfold allL;simp
theorem allL_take {bl:List Bx} {k:Nat} (hk:k < bl.length):(allL bl).take (k+1)=(allL bl).take k++[allN bl k]:=by
 rw [List.take_succ_eq_append_getElem (by rw [allL_len];exact hk)]
 unfold allL allN
 simp
theorem all_c:AllC:=by
 intro p f v w hp htab hs hok hf
 have hp0:=hp
 obtain ⟨vt,vf,rfl,ht,hf0⟩:=hp
 obtain ⟨W,hW⟩:∃ W,W=w.alloc (.cells #[vt,vf] 27):=⟨_,rfl⟩
 have hbW:Below w.heap.size w W:=by rw [hW];exact alloc_below _ _
 have k1:W.heap[w.heap.size]?=some (.cells #[vt,vf] 27 (0,0)):=by rw [hW];exact alloc_new _ _
 have HFD:=hid (find_d p f 0 0 _ W (hp0.below hbW) (htab.on hbW) hs hok hf)
 have HFN:=hid (fun (k:Nat) (x:Fx) (h1:Has1 p f k x)=>fn_later (hf0.below fnStays hbW) h1)
 obtain ⟨ta,tc,rfl⟩:=ht.slice
 obtain ⟨fa,fc,rfl,_⟩:=hf0.slice
 have l0:=later_cells k1 0 _ rfl;have l1:=later_cells k1 1 _ rfl
 have HBW:=hid hbW
 have HW:=hid hW
 have h0:=Aft.refl W
 clear ht hf0 hbW hW k1 hp0 hs htab hf
 unfold FindD at HFD
 rw [rulesE_first hok] at HFD
 by_cases hz:findP p f=0
 rotate_left
 ·have HN:Hid (allD p f=[]):=by show _=_;unfold allD;rw [if_neg hz]
  have e0:(findP p f != 0)=true:=by simpa using hz
  clear hz hok HFN
  generalize allD p f=ra at *
  generalize findP p f=re at *
  generalize p.types.length=n1 at *
  generalize p.funcs.length=n2 at *
  go_enter Tryz.func116,Tryz.ntmps116
  go_wp2_with fail
  rw [← HW.out]
  refine HFD.out.mono ?_
  rintro e w1 ⟨l,rfl,hl,_,hb1⟩
  have h1:=h0.go hb1
  obtain ⟨r1,r2,W5,hW5,a5,_,_⟩:=fresh_arr w1 l hl
  have hoc:=one_cells l
  have R1:=hid r1;have R2:=hid r2;have HOC:=hid hoc;have HW5:=hid hW5
  have HE:=hid ((h1.trans a5).out HBW.out)
  clear HFD hb1 r1 r2 hoc hl hW5 a5
  unfold rulV
  generalize uV l=zl at *
  go_wp2_with (refine wpList_store_mid rfl 111 _ _ rfl w1.heap.size 0 _ rfl rfl R1.out R2.out HOC.out ?_)
  rw [← HW5.out]
  go_ret2
  exact ⟨_,rfl,by rw [HN.out];exact newI_none _ _,HE.out⟩
 obtain ⟨hlow,hl0,hl16⟩:=low_fn hok hz
 have HN:Hid (allD p f=allL (blsP p f)):=by show _=_;unfold allD;rw [if_pos hz]
 obtain ⟨k,x,h1⟩:=has1 hz
 obtain ⟨fb,foff,fcap,ao,bc,he,d0,d1,hbl0⟩:=HFN.out k x h1
 cases he
 have hbp:=fn_blocks h1
 have hkl:=h1.lt
 have hke:=h1.eq
 have hkn:(k:Int) < p.funcs.length:=by omega
 rw [hz]
 rw [hz] at HFD
 generalize allD p f=ra at *
 generalize hX:blsP p f=Y at *
 subst hbp
 clear hX hz h1 hbl0 HFN hok
 subst hke
 obtain ⟨sg,bl⟩:=x
 simp only at *
 have HTK:=hid (fun j (h:j < bl.length)=>allL_take h)
 have HAL:=hid (allL_len bl)
 generalize p.types.length=n1 at *
 generalize p.funcs.length=n2 at *
 go_enter Tryz.func116,Tryz.ntmps116
 go_wp2_with fail
 rw [← HW.out]
 refine HFD.out.mono ?_
 rintro e w1 ⟨l,rfl,hl,hok1,hb1⟩
 have h1:=h0.go hb1
 have hru:=hok1 (by first | rfl | trivial)
 obtain ⟨r1,r2,W5,hW5,a5,rg5,sz5⟩:=fresh_arr w1 l hl
 have hoc:=one_cells l
 have R1:=hid r1;have R2:=hid r2;have HOC:=hid hoc;have HW5:=hid hW5
 have h5:=h1.trans a5
 have HE:=hid h5
 have HNX:=hid (show ∀ (j:Nat) (hj:j < 16) wx,Calls Tryz.prog 161 #[.agg (uV l).toArray,.int .i64 j] wx _ from fun j hj wx=>next_calls l j hl (by obtain ⟨_,_,hi,_⟩:=hru;exact hi.big) hj wx)
 have HB:=hid (fun j r hr=>show r=allN bl j from rul_next hru hlow hl0 (b:=j) (r:=r) hr)
 have HRG:=hid (fun wx (hx:Aft W5 wx)=>show wx.rangeAt w1.heap.size 0 (uV l) from fun j v hj=>by
  have:=rg5 j v hj
  exact later this wx hx)
 have HIN:=hid (infoR hl)
 have HUR:=hid underR
 clear HFD hb1 r1 r2 hoc hl hW5 a5 hok1 rg5 hru hlow
 unfold rulV
 generalize uV l=zl at *
 go_upto_region 2 with (refine wpList_store_mid rfl 111 _ _ rfl w1.heap.size 0 _ rfl rfl R1.out R2.out HOC.out ?_)
 rw [← HW5.out]
 clear HOC R1 R2
 go_wp2_with fail
 go_loopg [4,7,24] bl.length (fun gk u _ i wr=>∃ j:Nat,j+gk=bl.length∧i=.int .i64 j∧wr.ownsRow W5.heap.size 3 1 u j (intVals ((allL bl).take j))∧Aft W5 wr)
 case atStart=>exact ⟨0,by omega,rfl,World.ownsRow_nil _ _ _ _,Aft.refl _⟩
 case round =>
  obtain ⟨j,hj,rfl,hown,hA⟩:=hrel
  have HJ:=hid hj
  have HOWN:=hid hown
  have HA:=hid hA
  obtain ⟨ua,uc,rfl⟩:=own_slice hown
  clear hj hown hA
  by_cases hlt:j < bl.length
  ·have hjn:(j:Int) < bl.length:=by omega
   have HR1:=hid (HRG.out wr HA.out)
   have HN1:=hid (HNX.out j (by omega) wr)
   have HB1:=hid (HB.out j)
   have HT1:=hid (HTK.out j hlt)
   clear HB HTK HNX
   go_wp2_with (refine wpList_load_mid rfl 111 _ rfl w1.heap.size 0 rfl zl _ HR1.out HUR.out rfl HIN.out ?_)
   refine HN1.out.mono ?_
   rintro e w6 ⟨r,rfl,hr,hb6⟩
   have hre:=HB1.out r hr
   have HO6:=hid ((ownsRow_below HOWN.out hb6).alloc (.cells #[.int .i64 r] 3))
   have HI6:=hid (ints_one (w:=w6.alloc (.cells #[.int .i64 r] 3)) (b:=w6.heap.size) (n:=r) (cell_new _ _ _ _ rfl) (size_new _ _ _ rfl))
   have HA6:=hid ((HA.out.go hb6).alloc (.cells #[.int .i64 r] 3))
   have hsz:W5.heap.size≤(w6.alloc (.cells #[.int .i64 r] 3)).heap.size:=HA6.out.size
   have hn3:j≤100000:=by omega
   have HRE:=hid hre
   clear HN1 hb6 hr hre HOWN
   go_wp2_with (at_builtin;refine wpList_append_intsN rfl (.tmp 27) (.tmp 31) rfl W5.heap.size (.slice ua j uc) rfl j (intVals ((allL bl).take j)) HO6.out hn3 (.slice (some ⟨w6.heap.size,0,none⟩) 1 1) [r] rfl HI6.out (by simp) hsz ?_)
   intro v7 w7 hown7 hgr7 _
   have HO7:Hid (w7.ownsRow W5.heap.size 3 1 v7 (j+1) (intVals ((allL bl).take (j+1)))):=by
    show World.ownsRow _ _ _ _ _ _ _
    rw [HT1.out,intVals_append,← HRE.out]
    exact hown7
   have HA7:Hid (Aft W5 w7):=HA6.out.below.grown hgr7 hsz fun q hq=>(HO6.out.lt q hq).1
   obtain ⟨xa,xc,rfl⟩:=own_slice hown7
   clear hown7 hgr7 HO6 HI6 HA6 HRE HT1
   go_wp2
   go_roundg (gk - 1)
   case measure=>have:=HJ.out;omega
   case rel=>exact ⟨j+1,by have:=HJ.out;omega,by go_num,HO7.out,HA7.out⟩
  ·obtain rfl:j=bl.length:=by have:=HJ.out;omega
   have hta:(allL bl).take bl.length=allL bl:=by
    have:=List.take_length (l:=allL bl)
    rw [HAL.out] at this
    exact this
   rw [hta] at HOWN
   have HEE:=hid ((HE.out.trans HA.out).out HBW.out)
   have HS:=hid (Nat.le_trans HBW.out.size HE.out.size)
   clear hta HJ hlt HNX HB HTK HRG
   go_wp2
   go_ret2
   exact ⟨_,rfl,by rw [HN.out];exact newI_base (newI_of HOWN.out (by rw [HAL.out];omega)) HS.out,HEE.out⟩
end Go.Proofs.YtpejpnffcepdlaaGreatDoor.DmE
