/- Walks over shape.below, instructions, params, regs, and the reference's below, Many, Params, Count, Number. -/
import Derived.Test.YtpejpnffcepdlaaGreatDoorVShBToShW
import Derived.Test.YtpejpnffcepdlaaGreatDoorVTyBToTyTI
import Derived.Deep.RegionHeld3
import Derived.IntWalk
set_option maxRecDepth 100000
set_option maxHeartbeats 16000000
namespace Go.Proofs.YtpejpnffcepdlaaGreatDoor.ShE
open Go.RowKit Go.Lib SetP IntO TyM TyP TyB TyC ShM ShP ShA ShB ShC

theorem below1_calls (x m:Int) (b:Nat) (w:World) (hc:w.cell? ⟨b,0,none⟩=some (.int .i64 m)) :
  Calls Tryz.prog 81 #[.int .i64 x,.pointer (some ⟨b,0,none⟩)] w (BoolR (!decide (0≤x∧x < m)) w):=by
 by_cases h0:x < 0
 ·have hd:decide (0≤x∧x < m)=false:=by simp;omega
  rw [hd]
  go_enter Tryz.func81,Tryz.ntmps81
  go_wp2
  go_ret
  exact ⟨rfl,Below.refl _ _⟩
 ·by_cases h1:m≤x
  ·have hd:decide (0≤x∧x < m)=false:=by simp;omega
   rw [hd]
   go_enter Tryz.func81,Tryz.ntmps81
   go_wp2
   go_ret
   exact ⟨rfl,Below.refl _ _⟩
  ·have hd:decide (0≤x∧x < m)=true:=by simp;omega
   rw [hd]
   go_enter Tryz.func81,Tryz.ntmps81
   go_wp2
   go_ret
   exact ⟨rfl,Below.refl _ _⟩
theorem below_calls (m:Int) (v:Value) (l:List Int) (w:World) (hl:IntsAt w v l) :
  Calls Tryz.prog 41 #[.int .i64 m,v] w (BoolR (lowB m l) w):=by
 have hb0:Below w.heap.size w (w.alloc (.cells #[.int .i64 m] 3)):=alloc_below _ _
 have HC:=hid (contains_calls 81 (enters_of Tryz.func81 (by kernel_rfl) rfl) w.heap.size (fun x=>!decide (0≤x∧x < m)) v l _ (hl.below hb0)
  (fun x _ wx hbx=>below1_calls x m w.heap.size wx ((hbx.cell (p:=⟨w.heap.size,0,none⟩) (by simp)).trans (by simp))))
 rw [← low_not]
 generalize l.any (fun x=>!decide (0≤x∧x < m))=b at *
 clear hl
 cases b <;>
 ·go_enter Tryz.func41,Tryz.ntmps41
  go_wp2_with fail
  refine HC.out.mono ?_
  rintro e w1 ⟨rfl,hb1⟩
  have hbe:=hb0.trans (hb1.mono hb0.size)
  clear hb1
  go_wp2
  go_ret
  exact ⟨rfl,hbe⟩

theorem instructions_calls (v:Value) (l:List Bx) (w:World) (hl:BlksAt w v l) (hm:manyB l≤1000000) :
  Calls Tryz.prog 82 #[v] w (NumR (manyB l:Nat) w):=by
 have HL:=hid hl
 have HM:=hid (fun k=>Nat.le_trans (manyB_le l k) hm)
 have HT:=hid (fun k (h:k < l.length)=>manyB_take h)
 obtain ⟨ao,cap,rfl,hlen⟩:=hl.slice
 clear hl hm
 go_enter Tryz.func82,Tryz.ntmps82
 go_wp2
 go_loopg [3,8] l.length (fun gk m i wr=>∃ k:Nat,k+gk=l.length∧i=.int .i64 k∧m=.int .i64 (manyB (l.take k):Nat)∧Below w.heap.size w wr)
 case atStart=>exact ⟨0,by omega,rfl,rfl,Below.refl _ _⟩
 case round =>
  obtain ⟨k,hk,rfl,rfl,hbe⟩:=hrel
  have HK:=hid hk
  by_cases hlt:k < l.length
  ·obtain ⟨b,off,rfl,hbs,vi,c0,c1,c2,c3,c4,hi⟩:=(HL.out.below blkStays hbe).at k hlt
   have HS:=hid (HT.out k hlt)
   have h1:=HM.out k
   have h2:=HM.out (k+1)
   rw [HS.out] at h2
   obtain ⟨ia,ic,rfl,_⟩:=hi.slice
   have hbe1:=hbe.alloc hbe.size (.cells #[.slice ia l[k].ins.length ic,.int .u8 l[k].en.kind,.int .i64 l[k].en.a,.int .i64 l[k].en.to,.int .i64 l[k].en.els] 38)
   clear hk hi
   generalize manyB (l.take k)=mk at *
   generalize l[k]=x at *
   generalize x.ins.length=il at *
   go_wp2
   go_roundg (gk - 1)
   case measure=>have:=HK.out;omega
   case rel=>exact ⟨k+1,by have:=HK.out;omega,by go_num,by rw [HS.out];go_num,hbe1⟩
  ·obtain rfl:k=l.length:=by omega
   rw [List.take_length]
   clear hk
   go_wp2
   go_ret
   exact ⟨rfl,hbe⟩
def parOf (t:List Ty) (s:Int):Nat:=((t[s.toNat]?).getD default).parts.length
theorem parOf_at {t:List Ty} {k:Nat} (h:k < t.length):parOf t (k:Int)=t[k].parts.length:=by
 unfold parOf
 rw [Int.toNat_natCast,List.getElem?_eq_getElem h];rfl


theorem params_calls (t:List Ty) (f:Fx) (vt vf vb:Value) (w:World) (ht:TysAt w vt t) (hvf:∃ a n c,vf=.slice a n c) (h0:0≤f.sig) (h1:f.sig < t.length) (hvb:∃ a c,vb=.slice a f.blocks.length c∧f.blocks.length≤9223372036854775807) :
  Calls Tryz.prog 43 #[.agg #[vt,vf],fxV f vb] w (NumR (parOf t f.sig:Nat) w):=by
 obtain ⟨k,hk⟩:∃ k:Nat,f.sig=k:=⟨f.sig.toNat,by omega⟩
 have hkt:k < t.length:=by omega
 rw [hk,parOf_at hkt]
 obtain ⟨ta,tc,rfl⟩:=ht.slice
 obtain ⟨tb,off,rfl,hlt,pv,c0,c1,c2,c3,hp⟩:=ht.at k hkt
 obtain ⟨pa,pc,rfl,hpl⟩:=ints_slice hp
 obtain ⟨fa,fn,fc,rfl⟩:=hvf
 obtain ⟨ba,bc,rfl,_⟩:=hvb
 clear ht hp h0 h1
 obtain ⟨sg,bl⟩:=f
 simp only at *
 subst hk
 generalize t[k]=x at *
 generalize t.length=n1 at *
 generalize bl.length=n2 at *
 generalize x.parts.length=n3 at *
 go_enter Tryz.func43,Tryz.ntmps43
 go_wp2
 go_ret
 exact ⟨rfl,(alloc_below _ _).alloc (by simp) _⟩

theorem keep4 {w w' : World} (hb:Below w.heap.size w w') {a b c d:Addr} {x y z u:Value} (h:w.cell? a=some x∧w.cell? b=some y∧w.cell? c=some z∧w.cell? d=some u):w'.cell? a=some x∧w'.cell? b=some y∧w'.cell? c=some z∧w'.cell? d=some u :=
 ⟨keep_below hb h.1,keep_below hb h.2.1,keep_below hb h.2.2.1,keep_below hb h.2.2.2⟩
theorem sum_wrap {a b:Nat} (h:a+b≤1000000):IntKind.i64.wrap ((a:Int)+b)=((a+b:Nat):Int):=by
 rw [IntWalk.i64_in _ (by omega)];omega

theorem regs_calls (t:List Ty) (f:Fx) (vt vf vb:Value) (w:World) (ht:TysAt w vt t) (hvf:∃ a n c,vf=.slice a n c) (h0:0≤f.sig) (h1:f.sig < t.length) (hb:BlksAt w vb f.blocks) (hm:parOf t f.sig+manyB f.blocks≤1000000) :
  Calls Tryz.prog 42 #[.agg #[vt,vf],fxV f vb] w (NumR ((parOf t f.sig+manyB f.blocks:Nat):Int) w):=by
 have HP:=hid (fun wx (hx:Below w.heap.size w wx)=>params_calls t f vt vf vb wx (ht.below hx) hvf h0 h1 hb.slice)
 have HI:=hid (fun wx (hx:Below w.heap.size w wx)=>instructions_calls vb f.blocks wx (hb.below blkStays hx) (by omega))
 obtain ⟨ta,tc,rfl⟩:=ht.slice
 obtain ⟨fa,fn,fc,rfl⟩:=hvf
 obtain ⟨ba,bc,rfl,_⟩:=hb.slice
 have HW:=hid (sum_wrap hm)
 clear ht hb h0 h1 hm
 generalize parOf t f.sig=np at *
 generalize manyB f.blocks=nm at *
 obtain ⟨sg,bl⟩:=f
 simp only at *
 generalize t.length=n1 at *
 generalize bl.length=n2 at *
 go_enter Tryz.func42,Tryz.ntmps42
 go_wp2_with fail
 obtain ⟨w2,hw2⟩:∃ w2:World,w2=(w.alloc (.cells #[.slice ta n1 tc,.slice fa fn fc] 27)).alloc (.cells #[.int .i64 sg,.slice ba n2 bc] 41):=⟨_,rfl⟩
 rw [← hw2]
 have HB2:Hid (Below w.heap.size w w2):=by show Below _ _ _;rw [hw2];exact (alloc_below _ _).alloc (by simp) _
 have q0:w2.cell? ⟨w.heap.size,0,none⟩=some (.slice ta n1 tc):=by rw [hw2];simp
 have q1:w2.cell? ⟨w.heap.size,1,none⟩=some (.slice fa fn fc):=by rw [hw2];simp
 have q2:w2.cell? ⟨w.heap.size+1,0,none⟩=some (.int .i64 sg):=by rw [hw2];simp
 have q3:w2.cell? ⟨w.heap.size+1,1,none⟩=some (.slice ba n2 bc):=by rw [hw2];simp
 have HD:Hid (w2.drew.cell? ⟨w.heap.size,0,none⟩=some (.slice ta n1 tc)∧w2.drew.cell? ⟨w.heap.size,1,none⟩=some (.slice fa fn fc)∧w2.drew.cell? ⟨w.heap.size+1,0,none⟩=some (.int .i64 sg)∧w2.drew.cell? ⟨w.heap.size+1,1,none⟩=some (.slice ba n2 bc)):=⟨q0,q1,q2,q3⟩
 clear hw2 q0 q1 q2 q3
 generalize hbs:w.heap.size=bs at *
 have hwr:=HW.out
 have hsz:bs≤w2.drew.heap.size:=by have:=HB2.out.drew.size;omega
 go_region_held3 (fun w'=>w'.cell? ⟨bs,0,none⟩=some (.slice ta n1 tc)∧w'.cell? ⟨bs,1,none⟩=some (.slice fa fn fc)∧w'.cell? ⟨bs+1,0,none⟩=some (.int .i64 sg)∧w'.cell? ⟨bs+1,1,none⟩=some (.slice ba n2 bc))
  (first | exact keep4 hb4 (keep4 hb HD.out) | exact keep4 hb HD.out | exact HD.out) (first | (go_at_call 43;refine (HP.out w2.drew HB2.out.drew).mono ?_;rintro e w3 ⟨rfl,hb⟩) | (go_at_call 82;refine (HI.out w3 (HB2.out.drew.trans (hb.mono hsz))).mono ?_;rintro e w4 ⟨rfl,hb4⟩))
 all_goals
  have hbe:=HB2.out.drew.trans (hb.mono (by have:=HB2.out.drew.size;omega))
  have hbe4:=hbe.trans (hb4.mono (by have:=hbe.size;omega))
  go_wp2
  go_ret
  exact ⟨rfl,by rw [hbs];exact hbe4⟩
end Go.Proofs.YtpejpnffcepdlaaGreatDoor.ShE
