/- Walk over the reference's Number (fescueref06). -/
import Derived.Test.YtbebficgcemkoaaGreatDoorYShRMa
import Derived.Test.YtbebficgcemkoaaGreatDoorYShIToShJp
import Derived.Test.YtbebficgcemkoaaGreatDoorYRwHToShTB
set_option maxRecDepth 100000
set_option maxHeartbeats 16000000
namespace Go.Proofs.YtbebficgcemkoaaGreatDoor.ShRH
open Go.RowKit Go.Lib RwO SetP IntO TyM TyP TyB TyC TyRA ShM ShP ShA ShB ShC ShE ShRA ShH ShI ShJ Aft

theorem number_calls (p:Px) (f:Int) (k:Nat) (x:Fx) (j i:Nat) (v:Value) (w:World) (hp:PrAt w v p) (h1:Has1 p f k x) (hj:j≤x.blocks.length) (hle:parOf p.types x.sig+manyB x.blocks≤1000000) (hi:i≤1000000) :
  Calls Tryz.prog 53 #[v,.int .i64 f,.int .i64 j,.int .i64 i] w (NumR ((parOf p.types x.sig+(manyB (x.blocks.take j)+i):Nat):Int) w):=by
 obtain ⟨vt,vf,rfl,ht,hf⟩:=hp
 obtain ⟨W,hW⟩:∃ W,W=w.alloc (.cells #[vt,vf] 28):=⟨_,rfl⟩
 have hbW:Below w.heap.size w W:=by rw [hW];exact alloc_below _ _
 have k1:W.heap[w.heap.size]?=some (.cells #[vt,vf] 28 (0,0)):=by rw [hW];exact alloc_new _ _
 obtain ⟨fb,foff,fcap,vb,rfl,hfb,c0,c1,hbl⟩:=fn_at hf h1
 have htW:=ht.below hbW
 have hblW:=hbl.below blkStays hbW
 have hml:=manyB_le x.blocks j
 have HP:=hid (fun wx (hx:Aft W wx)=>paramsR_calls p.types x vt (.slice (some ⟨fb,foff,none⟩) p.funcs.length fcap) vb wx (htW.below hx.below) ⟨_,_,_,rfl⟩ h1.sig0 h1.sig1 (hblW.below blkStays hx.below).slice)
 have d0:=later ((hbW.cell (p:=⟨fb,foff+k * 2,none⟩) hfb).trans c0)
 have d1:=later ((hbW.cell (p:=⟨fb,foff+k * 2+1,none⟩) hfb).trans c1)
 obtain ⟨ta,tc,rfl⟩:=ht.slice
 obtain ⟨ba,bc,rfl,_⟩:=hbl.slice
 obtain ⟨bb,boff,hba,-⟩:=hbl.at 0 (by have:=h1.blocks1;omega)
 subst hba
 have HI:=hid (fun wx (hx:Aft W wx)=>many_calls (.slice (some ⟨bb,boff,none⟩) j bc) (x.blocks.take j) wx ((hblW.below blkStays hx.below).take j hj) (by omega))
 have hcap:=hbl.cap
 have hjc:(j:Int)≤bc:=by omega
 have hj0:(0:Int)≤j:=by omega
 have l0:=later_cells k1 0 _ rfl;have l1:=later_cells k1 1 _ rfl
 have hkl:(k:Int) < p.funcs.length:=by have:=h1.lt;omega
 have hk0:(0:Int)≤k:=by omega
 have hke:=h1.eq
 have HBW:=hid hbW
 have HW:=hid hW
 have h0:=(Aft.refl W).drew
 have hw1:IntKind.i64.wrap (((parOf p.types x.sig:Nat):Int)+(manyB (x.blocks.take j):Nat))=((parOf p.types x.sig+manyB (x.blocks.take j):Nat):Int):=sum_wrap (by omega)
 have hw2:IntKind.i64.wrap (((parOf p.types x.sig:Nat):Int)+(manyB (x.blocks.take j):Nat)+(i:Int))=((parOf p.types x.sig+(manyB (x.blocks.take j)+i):Nat):Int):=by rw [IntWalk.i64_in _ (by omega)];omega
 have HW1:=hid hw1
 have HW2:=hid hw2
 clear ht hf htW hblW hbW hW k1 hbl h1 c0 c1 hle hml hw1 hw2 hj
 subst hke
 generalize parOf p.types x.sig=par at *
 generalize manyB (x.blocks.take j)=nm at *
 obtain ⟨sg,bl⟩:=x
 simp only at *
 generalize p.types.length=n1 at *
 generalize p.funcs.length=n2 at *
 generalize bl.length=n4 at *
 have hwr:=HW1.out
 have hwr2:=HW2.out
 have HPC:=hid (HP.out _ h0)
 clear HP
 go_enter Tryz.func53,Tryz.ntmps53
 go_wp2_with fail
 rw [← HW.out]
 go_region_held3 (fun w'=>Aft W w') (first | exact (h0.go hb3).go hb4 | exact h0.go hb3 | exact h0)
  (first | (go_at_call 100;refine HPC.out.mono ?_;rintro e w3 ⟨rfl,hb3⟩) | (go_at_call 99;refine (HI.out w3 (h0.go hb3)).mono ?_;rintro e w4 ⟨rfl,hb4⟩))
 all_goals
  have h4:=(h0.go hb3).go hb4
  go_wp2
  go_ret
  exact ⟨rfl,h4.out HBW.out⟩

end Go.Proofs.YtbebficgcemkoaaGreatDoor.ShRH
