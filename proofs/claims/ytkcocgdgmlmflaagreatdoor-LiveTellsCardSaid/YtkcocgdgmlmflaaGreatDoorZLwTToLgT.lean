/- What the walks of laws over a program share. Walk over fescue/fescuelaw11.LiveTells: which registers live at a place, and at a block's end. -/
import Derived.Test.YtkcocgdgmlmflaaGreatDoorZShIToFwK
import Derived.Test.YtkcocgdgmlmflaaGreatDoorZShFToShRV
import Derived.Test.YtkcocgdgmlmflaaGreatDoorZShTP
import Derived.Test.YtkcocgdgmlmflaaGreatDoorZShBToShW
import Derived.Test.YtkcocgdgmlmflaaGreatDoorZShOpen
import Derived.Test.YtkcocgdgmlmflaaGreatDoorZTyBToTyRE
import Derived.Test.YtkcocgdgmlmflaaGreatDoorZIntOToAft
import Derived.Test.YtkcocgdgmlmflaaGreatDoorZLuFToLuG
import Derived.Test.YtkcocgdgmlmflaaGreatDoorZIntGToLiC
namespace Go.Proofs.YtkcocgdgmlmflaaGreatDoor.LwT
open Go.RowKit Go.Lib RwO SetP IntO TyM TyP TyB TyC ShM ShP ShA ShB ShC ShE ShR ShOpen ShRS ShTB ShTP Aft

end Go.Proofs.YtkcocgdgmlmflaaGreatDoor.LwT
namespace Go.Proofs.YtkcocgdgmlmflaaGreatDoor.LgT
open Go.RowKit Go.Lib RwO SetP IntO TyM TyP TyB TyC TyRE ShM ShP ShA ShB ShC ShE ShI ShJ ShR ShOpen ShRS ShRJ ShTB ShTP Aft LwT FwP FwQ FwR FwK FvB FdQ LvQ LgK LuG

set_option maxRecDepth 100000 in
set_option maxHeartbeats 16000000 in
theorem walk_of (CA : AtC) (CE : EndC) (W : World) (v : Value) (p : Px) (S : PrAt W v p) (_ : ∀ y ∈ p.types, TyOk y) (z : ∀ y ∈ p.funcs, FxOk y) (ln : Lens p) (f : Int) (fw : (Lit.int .i64 f).wf = true) (b : Int) (bw : (Lit.int .i64 b).wf = true) (pl : Int) (plw : (Lit.int .i64 pl).wf = true) (ht : Tab W) :
    Calls Tryz.prog 3 #[v, .int .i64 f, .int .i64 b, .int .i64 pl] W fun e W' => e = .returned (.bool true) ∧ Below W.heap.size W W' := by
  have v64f : I64 f := i64_wf fw
  have v64b : I64 b := i64_wf bw
  have v64pl : I64 pl := i64_wf plw
  have hok : POk p := fun f hf b hb => ⟨(z f hf b hb).1, fun y hy => ((z f hf b hb).2 y hy).1⟩
  have HOK := hid hok
  have hp0 := S
  obtain ⟨vt, vf, rfl, hvt, hvf⟩ := S
  obtain ⟨W0, hW0⟩ : ∃ W0, W0 = W.alloc (.cells #[vt, vf] 25) := ⟨_, rfl⟩
  have hbW : Below W.heap.size W W0 := by rw [hW0]; exact alloc_below _ _
  have k1 : W0.heap[W.heap.size]? = some (.cells #[vt, vf] 25 (0, 0)) := by rw [hW0]; exact alloc_new _ _
  have HP := hid (hp0.below hbW)
  have HT := hid (ht.on hbW)
  have HG := hid (ShR.great_calls p _ 200 W0 HP.out ln (by decide) (by decide))
  obtain ⟨ta, tc, rfl⟩ := hvt.slice
  obtain ⟨fa, fc, rfl, _⟩ := hvf.slice
  have l0 : ∀ w', Aft W0 w' → w'.cell? ⟨W.heap.size, 0, none⟩ = some (.slice ta p.types.length tc) := later_cells k1 0 _ rfl
  have l1 : ∀ w', Aft W0 w' → w'.cell? ⟨W.heap.size, 1, none⟩ = some (.slice fa p.funcs.length fc) := later_cells k1 1 _ rfl
  have HBW := hid hbW
  have HW := hid hW0
  have h0 := Aft.refl W0
  have HIf := hid v64f
  have HIb := hid v64b
  have HIpl := hid v64pl
  clear hvt hvf hp0 hbW hW0 k1 z ln ht hok v64f fw v64b bw v64pl plw
  generalize p.types.length = n1 at *
  generalize p.funcs.length = n2 at *
  go_enter Tryz.func3, Tryz.ntmps3
  go_wp2_with fail
  rw [← HW.out]
  refine HG.out.mono ?_
  rintro e w1 ⟨gb, rfl, hsmall, hb1⟩
  have h1 := h0.go hb1
  clear HG hb1
  cases gb with
  | true =>
    clear hsmall
    go_wp2
    go_ret
    exact ⟨rfl, h1.out HBW.out⟩
  | false =>
  have hs := hsmall rfl
  have HS := hid hs
  clear hsmall hs
  have HTW := hid (twinRef_calls p _ w1 (HP.out.below h1.below) (ShTP.Small.fine HS.out))
  go_wp2_with fail
  refine HTW.out.mono ?_
  rintro e w2 ⟨u, rfl, hown, hb2⟩
  have h2 := h1.go hb2
  have hpu := hown.at (by have := HS.out.types; omega) (fun x hx => by have := HS.out.parts x hx; omega)
  obtain ⟨ut, uf, rfl, hut, huf⟩ := hpu
  have hpu : PrAt w2 (.agg #[ut, uf]) p := ⟨_, _, rfl, hut, huf⟩
  obtain ⟨uta, utc, rfl⟩ := hut.slice
  obtain ⟨ufa, ufc, rfl, _⟩ := huf.slice
  obtain ⟨W2, hW2, ha2, k2⟩ := kept_new w2 (.slice uta p.types.length utc) (.slice ufa p.funcs.length ufc)
  have HPU := hid (hpu.below ha2.below)
  have h3 := h2.trans ha2
  have m0 : ∀ w', Aft W2 w' → w'.cell? ⟨w2.heap.size, 0, none⟩ = some (.slice uta p.types.length utc) := later_cells k2 0 _ rfl
  have m1 : ∀ w', Aft W2 w' → w'.cell? ⟨w2.heap.size, 1, none⟩ = some (.slice ufa p.funcs.length ufc) := later_cells k2 1 _ rfl
  clear hb2 hown hut huf hpu HTW k2 ha2
  generalize p.types.length = n3 at *
  generalize p.funcs.length = n4 at *
  have HW2 := hid hW2
  clear hW2
  go_upto_region 4 with fail
  rw [← HW2.out]
  clear h2
  have C0 := hid (fun wx (h : Aft W2 wx) => CA p f b pl _ wx (HPU.out.below h.below) (HT.out.on (h3.trans h).below) HS.out HOK.out HIf.out HIb.out HIpl.out)
  have C1 := hid (fun wx (h : Aft W0 wx) => LuG.at_calls p f b pl _ wx (HP.out.below h.below) HS.out HOK.out)
  have C2 := hid (fun wx (h : Aft W2 wx) => CE p f b _ wx (HPU.out.below h.below) (HT.out.on (h3.trans h).below) HS.out HOK.out HIf.out HIb.out)
  have C3 := hid (fun wx (h : Aft W0 wx) => LuG.end_calls p f b _ wx (HP.out.below h.below) HS.out HOK.out)
  have CS := hid (fun wx (h : Aft W2 wx) => sameP_calls _ _ p p wx (HPU.out.below h.below) (HP.out.below (h3.trans h).below))
  rw [decide_eq_true rfl] at CS
  generalize liveA p f b pl = x0 at *
  generalize atE p f b pl = x1 at *
  generalize lendA p f b = x2 at *
  generalize askB p f b = x3 at *
  have ex1 : (x1 == x1) = true := by simp
  have ex3 : (x3 == x3) = true := by simp
  have hw2 : Aft W2 W2 := Aft.refl W2
  clear HS HOK HP HPU HT HW2 HIf HIb HIpl
  have D0 := hid (C0.out _ hw2)
  clear C0
  go_wp2_with fail
  refine D0.out.mono ?_
  rintro e w3 ⟨u0, rfl, hu0, hb⟩
  obtain ⟨q0, c0, rfl, _⟩ := ints_slice hu0
  have HU0 := hid hu0
  clear hu0
  have a3 := hw2.go hb
  have b3 := h3.trans a3
  clear hb D0
  have D1 := hid (C1.out _ (h3.trans a3))
  clear C1
  go_wp2_with fail
  refine D1.out.mono ?_
  rintro e w4 ⟨u1, rfl, hu1, hb⟩
  obtain ⟨q1, c1, rfl, _⟩ := ints_slice hu1
  have HU0 := hid (HU0.out.below hb)
  have HU1 := hid hu1
  clear hu1
  have a4 := a3.go hb
  have b4 := h3.trans a4
  clear hb D1
  have D2 := hid (C2.out _ a4)
  clear C2
  go_wp2_with fail
  refine D2.out.mono ?_
  rintro e w5 ⟨u2, rfl, hu2, hb⟩
  obtain ⟨q2, c2, rfl, _⟩ := ints_slice hu2
  have HU0 := hid (HU0.out.below hb)
  have HU1 := hid (HU1.out.below hb)
  have HU2 := hid hu2
  clear hu2
  have a5 := a4.go hb
  have b5 := h3.trans a5
  clear hb D2
  have D3 := hid (C3.out _ (h3.trans a5))
  clear C3
  go_wp2_with fail
  refine D3.out.mono ?_
  rintro e w6 ⟨u3, rfl, hu3, hb⟩
  obtain ⟨q3, c3, rfl, _⟩ := ints_slice hu3
  have HU0 := hid (HU0.out.below hb)
  have HU1 := hid (HU1.out.below hb)
  have HU2 := hid (HU2.out.below hb)
  have HU3 := hid hu3
  clear hu3
  have a6 := a5.go hb
  have b6 := h3.trans a6
  clear hb D3
  have HQ := hid (sameInts_calls _ _ x0 x0 _ HU0.out HU1.out)
  rw [decide_eq_true rfl] at HQ
  go_wp2_with fail
  refine HQ.out.mono ?_
  rintro e w7 ⟨rfl, hb⟩
  have HU0 := hid (HU0.out.below hb)
  have HU1 := hid (HU1.out.below hb)
  have HU2 := hid (HU2.out.below hb)
  have HU3 := hid (HU3.out.below hb)
  have a7 := a6.go hb
  have b7 := h3.trans a7
  clear hb HQ
  have HQ := hid (sameInts_calls _ _ x2 x2 _ HU2.out HU3.out)
  rw [decide_eq_true rfl] at HQ
  go_wp2_with fail
  refine HQ.out.mono ?_
  rintro e w8 ⟨rfl, hb⟩
  have HU0 := hid (HU0.out.below hb)
  have HU1 := hid (HU1.out.below hb)
  have HU2 := hid (HU2.out.below hb)
  have HU3 := hid (HU3.out.below hb)
  have a8 := a7.go hb
  have b8 := h3.trans a8
  clear hb HQ
  have DS := hid (CS.out _ a8)
  clear CS
  go_wp2_with fail
  refine DS.out.mono ?_
  rintro e w9 ⟨rfl, hb⟩
  have a9 := a8.go hb
  have b9 := h3.trans a9
  clear hb DS
  have HE := hid ((h3.trans a9).out HBW.out)
  go_wp2
  go_ret
  exact ⟨rfl, HE.out⟩
end Go.Proofs.YtkcocgdgmlmflaaGreatDoor.LgT
