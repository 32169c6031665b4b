/- What the walks of laws over a program share. Walk over fescue/fescuelaw12.SoundTells: which programs are well formed, and registers' types. -/
import Derived.Test.YtpejpnffcepdlaaGreatDoorYShIToFvEU
import Derived.Test.YtpejpnffcepdlaaGreatDoorYShFToShRV
import Derived.Test.YtpejpnffcepdlaaGreatDoorYShTP
import Derived.Test.YtpejpnffcepdlaaGreatDoorYShBToShW
import Derived.Test.YtpejpnffcepdlaaGreatDoorYShOpen
import Derived.Test.YtpejpnffcepdlaaGreatDoorYTyBToTyTI
import Derived.Test.YtpejpnffcepdlaaGreatDoorYIntOToSwXd
import Derived.Test.YtpejpnffcepdlaaGreatDoorYSwXToSzM
import Derived.Test.YtpejpnffcepdlaaGreatDoorYSvQToSwU
set_option maxRecDepth 100000
set_option maxHeartbeats 16000000
namespace Go.Proofs.YtpejpnffcepdlaaGreatDoor.LwT
open Go.RowKit Go.Lib RwO SetP IntO TyM TyP TyB TyC ShM ShP ShA ShB ShC ShE ShR ShOpen ShRS ShTB ShTP Aft

end Go.Proofs.YtpejpnffcepdlaaGreatDoor.LwT
namespace Go.Proofs.YtpejpnffcepdlaaGreatDoor.SyT
open Go.RowKit Go.Lib RwO SetP IntO TyM TyP TyB TyC TyRE ShM ShP ShA ShB ShC ShE ShI ShJ ShR ShOpen ShRS ShRJ ShTB ShTP Aft LwT FwP FwQ FwR FwK FdQ SvQ SvK

theorem walk_of (CC:CheckC) (CK:KindC) (W:World) (v:Value) (p:Px) (S:PrAt W v p) (_:∀ y∈p.types,TyOk y) (z:∀ y∈p.funcs,FxOk y) (ln:Lens p) (f:Int) (fw:(Lit.int .i64 f).wf=true) (r:Int) (rw:(Lit.int .i64 r).wf=true) (ht:Tab W) :
  Calls Tryz.prog 4 #[v,.int .i64 f,.int .i64 r] W fun e W'=>e=.returned (.bool true)∧Below W.heap.size W W':=by
 have v64f:I64 f:=i64_wf fw
 have v64r:I64 r:=i64_wf rw
 have hok:POk p:=fun f hf b hb=>⟨(z f hf b hb).1,fun y hy=>((z f hf b hb).2 y hy).1⟩
 have HOK:=hid hok
 have hp0:=S
 obtain ⟨vt,vf,rfl,hvt,hvf⟩:=S
 obtain ⟨W0,hW0⟩:∃ W0,W0=W.alloc (.cells #[vt,vf] 27):=⟨_,rfl⟩
 have hbW:Below W.heap.size W W0:=by rw [hW0];exact alloc_below _ _
 have k1:W0.heap[W.heap.size]?=some (.cells #[vt,vf] 27 (0,0)):=by rw [hW0];exact alloc_new _ _
 have HP:=hid (hp0.below hbW)
 have HT:=hid (ht.on hbW)
 have HG:=hid (ShR.great_calls p _ 150 W0 HP.out ln (by decide) (by decide))
 obtain ⟨ta,tc,rfl⟩:=hvt.slice
 obtain ⟨fa,fc,rfl,_⟩:=hvf.slice
 have l0:∀ w',Aft W0 w'→w'.cell? ⟨W.heap.size,0,none⟩=some (.slice ta p.types.length tc):=later_cells k1 0 _ rfl
 have l1:∀ w',Aft W0 w'→w'.cell? ⟨W.heap.size,1,none⟩=some (.slice fa p.funcs.length fc):=later_cells k1 1 _ rfl
 have HBW:=hid hbW
 have HW:=hid hW0
 have h0:=Aft.refl W0
 have HIf:=hid v64f
 have HIr:=hid v64r
 clear hvt hvf hp0 hbW hW0 k1 z ln ht hok v64f fw v64r rw
 generalize p.types.length=n1 at *
 generalize p.funcs.length=n2 at *
 go_enter Tryz.func4,Tryz.ntmps4
 go_wp2_with fail
 rw [← HW.out]
 refine HG.out.mono ?_
 rintro e w1 ⟨gb,rfl,hsmall,hb1⟩
 have h1:=h0.go hb1
 clear HG hb1
 cases gb with
 | true =>
  clear hsmall
  go_wp2
  go_ret
  exact ⟨rfl,h1.out HBW.out⟩
 | false =>
 have hs:=hsmall rfl
 have HS:=hid hs
 clear hsmall hs
 have HTW:=hid (twinRef_calls p _ w1 (HP.out.below h1.below) (ShTP.Small.fine HS.out))
 go_wp2_with fail
 refine HTW.out.mono ?_
 rintro e w2 ⟨u,rfl,hown,hb2⟩
 have h2:=h1.go hb2
 have hpu:=hown.at (by have:=HS.out.types;omega) (fun x hx=>by have:=HS.out.parts x hx;omega)
 obtain ⟨ut,uf,rfl,hut,huf⟩:=hpu
 have hpu:PrAt w2 (.agg #[ut,uf]) p:=⟨_,_,rfl,hut,huf⟩
 obtain ⟨uta,utc,rfl⟩:=hut.slice
 obtain ⟨ufa,ufc,rfl,_⟩:=huf.slice
 obtain ⟨W2,hW2,ha2,k2⟩:=kept_new w2 (.slice uta p.types.length utc) (.slice ufa p.funcs.length ufc)
 have HPU:=hid (hpu.below ha2.below)
 have h3:=h2.trans ha2
 have m0:∀ w',Aft W2 w'→w'.cell? ⟨w2.heap.size,0,none⟩=some (.slice uta p.types.length utc):=later_cells k2 0 _ rfl
 have m1:∀ w',Aft W2 w'→w'.cell? ⟨w2.heap.size,1,none⟩=some (.slice ufa p.funcs.length ufc):=later_cells k2 1 _ rfl
 clear hb2 hown hut huf hpu HTW k2 ha2
 generalize p.types.length=n3 at *
 generalize p.funcs.length=n4 at *
 have HW2:=hid hW2
 clear hW2
 go_upto_region 4 with fail
 rw [← HW2.out]
 clear h2
 have C0:=hid (fun wx (h:Aft W2 wx)=>CK p f r _ wx (HPU.out.below h.below) (HT.out.on (h3.trans h).below) HS.out HOK.out HIf.out HIr.out)
 have C1:=hid (fun wx (h:Aft W0 wx)=>SwK.kind_calls p f r _ wx (HP.out.below h.below) HS.out HOK.out)
 have C2:=hid (fun wx (h:Aft W2 wx)=>CC p  _ wx (HPU.out.below h.below) (HT.out.on (h3.trans h).below) HS.out HOK.out )
 have C3:=hid (fun wx (h:Aft W0 wx)=>SwC.check_calls p  _ wx (HP.out.below h.below) HS.out HOK.out)
 have CS:=hid (fun wx (h:Aft W2 wx)=>sameP_calls _ _ p p wx (HPU.out.below h.below) (HP.out.below (h3.trans h).below))
 rw [decide_eq_true rfl] at CS
 generalize kindN p f r=x0 at *
 generalize kindE p f r=x1 at *
 generalize sndE p=x2 at *
 have ex0:(x0 == x0)=true:=by simp
 have ex1:(x1 == x1)=true:=by simp
 have ex2:(x2 == x2)=true:=by simp
 have hw2:Aft W2 W2:=Aft.refl W2
 clear HS HOK HP HPU HT HW2 HIf HIr
 have D0:=hid (C0.out _ hw2)
 clear C0
 go_wp2_with fail
 refine D0.out.mono ?_
 rintro e w3 ⟨rfl,hb⟩
 have a3:=hw2.go hb
 have b3:=h3.trans a3
 clear hb D0
 have D1:=hid (C1.out _ (h3.trans a3))
 clear C1
 go_wp2_with fail
 refine D1.out.mono ?_
 rintro e w4 ⟨rfl,hb⟩
 have a4:=a3.go hb
 have b4:=h3.trans a4
 clear hb D1
 have q0:=fun w' (h:Aft W2 w')=>l0 w' (h3.trans h)
 have q1:=fun w' (h:Aft W2 w')=>l1 w' (h3.trans h)
 have D3:=hid (fun wx (h:Aft W2 wx)=>C3.out wx (h3.trans h))
 have HB3:=hid (h3.out HBW.out)
 clear l0 l1 C3 HBW h3 b3 b4
 go_wp2_with fail
 go_region_held3 (fun w'=>Aft W2 w')
  (first | exact ((a4.drew.go hb5).go hb6).go hb7 | exact (a4.drew.go hb5).go hb6 | exact a4.drew.go hb5 | exact a4.drew | exact a4)
  (first | (go_at_call 12;(with_reducible refine (C2.out _ (by first | exact a4.drew | exact a4)).mono ?_);rintro e w5 ⟨rfl,hb5⟩) | (go_at_call 16;(with_reducible refine (D3.out _ (a4.drew.go hb5)).mono ?_);rintro e w6 ⟨rfl,hb6⟩) | (go_at_call 17;(with_reducible refine (CS.out _ ((a4.drew.go hb5).go hb6)).mono ?_);rintro e w7 ⟨rfl,hb7⟩))
 all_goals
  have HE:=hid ((((a4.drew.go hb5).go hb6).go hb7).out HB3.out)
  go_wp2
  go_ret
  exact ⟨rfl,HE.out⟩
end Go.Proofs.YtpejpnffcepdlaaGreatDoor.SyT
