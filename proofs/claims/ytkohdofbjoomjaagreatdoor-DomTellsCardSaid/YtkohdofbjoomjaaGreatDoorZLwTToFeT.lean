/- What the walks of laws over a program share. Walk over fescue/fescuelaw10.DomSets: what is set. Walk over fescue/fescuelaw10.DomTells: rulers. -/
import Derived.Test.YtkohdofbjoomjaaGreatDoorZShIToDmI
import Derived.Test.YtkohdofbjoomjaaGreatDoorZShRV
import Derived.Test.YtkohdofbjoomjaaGreatDoorZShTP
import Derived.Test.YtkohdofbjoomjaaGreatDoorZShBToShV
import Derived.Test.YtkohdofbjoomjaaGreatDoorZShOpenToFeZ
import Derived.Test.YtkohdofbjoomjaaGreatDoorZTyREToTyREG
import Derived.Test.YtkohdofbjoomjaaGreatDoorZIntOToAft
import Derived.Test.YtkohdofbjoomjaaGreatDoorZShNuToFdE
import Derived.Test.YtkohdofbjoomjaaGreatDoorZFdF
import Derived.Test.YtkohdofbjoomjaaGreatDoorZDmRToShBP
namespace Go.Proofs.YtkohdofbjoomjaaGreatDoor.LwT
open Go.RowKit Go.Lib RwO SetP IntO TyM TyP TyB TyC ShM ShP ShA ShB ShC ShE ShR ShOpen ShRS ShTB ShTP Aft

end Go.Proofs.YtkohdofbjoomjaaGreatDoor.LwT
namespace Go.Proofs.YtkohdofbjoomjaaGreatDoor.FeS
open Go.RowKit Go.Lib RwO SetP IntO TyM TyP TyB TyC TyRE ShM ShP ShA ShB ShC ShE ShI ShJ ShR ShOpen ShRS ShRJ ShTB ShTP Aft LwT FwP FwQ FwR FwK FvB FvC FdM FdQ FdK

set_option maxRecDepth 100000 in
set_option maxHeartbeats 16000000 in
theorem walk_of (CS : SetC) (W : World) (v : Value) (p : Px) (S : PrAt W v p) (_ : ∀ y ∈ p.types, TyOk y) (z : ∀ y ∈ p.funcs, FxOk y) (ln : Lens p) (f : Int) (fw : (Lit.int .i64 f).wf = true) (r : Int) (rw : (Lit.int .i64 r).wf = true) (bk : Int) (bkw : (Lit.int .i64 bk).wf = true) (pl : Int) (plw : (Lit.int .i64 pl).wf = true) (ht : Tab W) :
    Calls Tryz.prog 4 #[v, .int .i64 f, .agg #[.int .i64 r, .int .i64 bk, .int .i64 pl]] W fun e W' => e = .returned (.bool true) ∧ Below W.heap.size W W' := by
  have v64f : I64 f := i64_wf fw
  have v64r : I64 r := i64_wf rw
  have v64bk : I64 bk := i64_wf bkw
  have v64pl : I64 pl := i64_wf plw
  have hok : POk p := fun f hf b hb => ⟨(z f hf b hb).1, fun y hy => ((z f hf b hb).2 y hy).1⟩
  have HOK := hid hok
  have hp0 := S
  obtain ⟨vt, vf, rfl, hvt, hvf⟩ := S
  obtain ⟨W0, hW0⟩ : ∃ W0, W0 = (W.alloc (.cells #[vt, vf] 25)).alloc (.cells #[.int .i64 r, .int .i64 bk, .int .i64 pl] 46) := ⟨_, rfl⟩
  have hbW : Below W.heap.size W W0 := by rw [hW0]; exact (alloc_below _ _).alloc (by simp only [World.size_alloc]; omega) _
  have k1 : W0.heap[W.heap.size]? = some (.cells #[vt, vf] 25 (0, 0)) := by rw [hW0]; exact alloc_old (alloc_new _ _) _
  have k2 : W0.heap[W.heap.size + 1]? = some (.cells #[.int .i64 r, .int .i64 bk, .int .i64 pl] 46 (0, 0)) := by
    rw [hW0]
    have := alloc_new (W.alloc (.cells #[vt, vf] 25)) (.cells #[.int .i64 r, .int .i64 bk, .int .i64 pl] 46)
    rwa [World.size_alloc] at this
  have HP := hid (hp0.below hbW)
  have HT := hid (ht.on hbW)
  have HG := hid (ShR.great_calls p _ 300 W0 HP.out ln (by decide) (by decide))
  obtain ⟨ta, tc, rfl⟩ := hvt.slice
  obtain ⟨fa, fc, rfl, _⟩ := hvf.slice
  have l0 : ∀ w', Aft W0 w' → w'.cell? ⟨W.heap.size, 0, none⟩ = some (.slice ta p.types.length tc) := later_cells k1 0 _ rfl
  have l1 : ∀ w', Aft W0 w' → w'.cell? ⟨W.heap.size, 1, none⟩ = some (.slice fa p.funcs.length fc) := later_cells k1 1 _ rfl
  have x0 := later_cells k2 0 _ rfl
  have x1 := later_cells k2 1 _ rfl
  have x2 := later_cells k2 2 _ rfl
  have HBW := hid hbW
  have HW := hid hW0
  have h0 := Aft.refl W0
  have HIf := hid v64f
  have HIr := hid v64r
  have HIbk := hid v64bk
  have HIpl := hid v64pl
  clear hvt hvf hp0 hbW hW0 k1 z ln ht hok k2 v64f fw v64r rw v64bk bkw v64pl plw
  generalize p.types.length = n1 at *
  generalize p.funcs.length = n2 at *
  go_enter Tryz.func4, Tryz.ntmps4
  go_wp2_with fail
  rw [← HW.out]
  refine HG.out.mono ?_
  rintro e w1 ⟨gb, rfl, hsmall, hb1⟩
  have h1 := h0.go hb1
  clear HG hb1
  cases gb with
  | true =>
    clear hsmall
    go_wp2
    go_ret
    exact ⟨rfl, h1.out HBW.out⟩
  | false =>
  have hs := hsmall rfl
  have HS := hid hs
  clear hsmall hs
  have HTW := hid (twinRef_calls p _ w1 (HP.out.below h1.below) (ShTP.Small.fine HS.out))
  go_wp2_with fail
  refine HTW.out.mono ?_
  rintro e w2 ⟨u, rfl, hown, hb2⟩
  have h2 := h1.go hb2
  have hpu := hown.at (by have := HS.out.types; omega) (fun x hx => by have := HS.out.parts x hx; omega)
  obtain ⟨ut, uf, rfl, hut, huf⟩ := hpu
  have hpu : PrAt w2 (.agg #[ut, uf]) p := ⟨_, _, rfl, hut, huf⟩
  obtain ⟨uta, utc, rfl⟩ := hut.slice
  obtain ⟨ufa, ufc, rfl, _⟩ := huf.slice
  obtain ⟨W2, hW2, ha2, k2⟩ := kept_new w2 (.slice uta p.types.length utc) (.slice ufa p.funcs.length ufc)
  have HPU := hid (hpu.below ha2.below)
  have h3 := h2.trans ha2
  have m0 : ∀ w', Aft W2 w' → w'.cell? ⟨w2.heap.size, 0, none⟩ = some (.slice uta p.types.length utc) := later_cells k2 0 _ rfl
  have m1 : ∀ w', Aft W2 w' → w'.cell? ⟨w2.heap.size, 1, none⟩ = some (.slice ufa p.funcs.length ufc) := later_cells k2 1 _ rfl
  clear hb2 hown hut huf hpu HTW k2 ha2
  generalize p.types.length = n3 at *
  generalize p.funcs.length = n4 at *
  have HW2 := hid hW2
  clear hW2
  go_upto_region 4 with fail
  rw [← HW2.out]
  clear h2
  have C0 := hid (fun wx (h : Aft W2 wx) => CS p f r bk pl _ wx (HPU.out.below h.below) (HT.out.on (h3.trans h).below) HS.out HOK.out HIf.out HIr.out HIbk.out HIpl.out)
  have C1 := hid (fun wx (h : Aft W0 wx) => FdF.set_calls p f r bk pl _ wx (HP.out.below h.below) HS.out HOK.out)
  have CS := hid (fun wx (h : Aft W2 wx) => sameP_calls _ _ p p wx (HPU.out.below h.below) (HP.out.below (h3.trans h).below))
  rw [decide_eq_true rfl] at CS
  generalize setA p f r bk pl = x0 at *
  generalize setE p f r bk pl = x1 at *
  have ex0 : (x0 == x0) = true := by simp
  have ex1 : (x1 == x1) = true := by simp
  have hw2 : Aft W2 W2 := Aft.refl W2
  clear HS HOK HP HPU HT HW2 HIf HIr HIbk HIpl
  have D0 := hid (C0.out _ hw2)
  clear C0
  go_wp2_with fail
  refine D0.out.mono ?_
  rintro e w3 ⟨rfl, hb⟩
  have a3 := hw2.go hb
  have b3 := h3.trans a3
  clear hb D0
  have D1 := hid (C1.out _ (h3.trans a3))
  clear C1
  go_wp2_with fail
  refine D1.out.mono ?_
  rintro e w4 ⟨rfl, hb⟩
  have a4 := a3.go hb
  have b4 := h3.trans a4
  clear hb D1
  have DS := hid (CS.out _ a4)
  clear CS
  go_wp2_with fail
  refine DS.out.mono ?_
  rintro e w5 ⟨rfl, hb⟩
  have a5 := a4.go hb
  have b5 := h3.trans a5
  clear hb DS
  have HE := hid ((h3.trans a5).out HBW.out)
  go_wp2
  go_ret
  exact ⟨rfl, HE.out⟩
end Go.Proofs.YtkohdofbjoomjaaGreatDoor.FeS
namespace Go.Proofs.YtkohdofbjoomjaaGreatDoor.FeT
open Go.RowKit Go.Lib RwO SetP IntO TyM TyP TyB TyC TyRE ShM ShP ShA ShB ShC ShE ShI ShJ ShR ShOpen ShRS ShRJ ShTB ShTP Aft LwT FwP FwQ FwR FwK FvB FvC FdM FdQ FdK

set_option maxRecDepth 100000 in
set_option maxHeartbeats 16000000 in
theorem walk_of (CR : RulesC) (CN : NextDC) (CA : AllC) (W : World) (v : Value) (p : Px) (S : PrAt W v p) (_ : ∀ y ∈ p.types, TyOk y) (z : ∀ y ∈ p.funcs, FxOk y) (ln : Lens p) (f : Int) (fw : (Lit.int .i64 f).wf = true) (a : Int) (aw : (Lit.int .i64 a).wf = true) (b : Int) (bw : (Lit.int .i64 b).wf = true) (ht : Tab W) :
    Calls Tryz.prog 3 #[v, .int .i64 f, .int .i64 a, .int .i64 b] W fun e W' => e = .returned (.bool true) ∧ Below W.heap.size W W' := by
  have v64f : I64 f := i64_wf fw
  have v64a : I64 a := i64_wf aw
  have v64b : I64 b := i64_wf bw
  have hok : POk p := fun f hf b hb => ⟨(z f hf b hb).1, fun y hy => ((z f hf b hb).2 y hy).1⟩
  have HOK := hid hok
  have hp0 := S
  obtain ⟨vt, vf, rfl, hvt, hvf⟩ := S
  obtain ⟨W0, hW0⟩ : ∃ W0, W0 = W.alloc (.cells #[vt, vf] 25) := ⟨_, rfl⟩
  have hbW : Below W.heap.size W W0 := by rw [hW0]; exact alloc_below _ _
  have k1 : W0.heap[W.heap.size]? = some (.cells #[vt, vf] 25 (0, 0)) := by rw [hW0]; exact alloc_new _ _
  have HP := hid (hp0.below hbW)
  have HT := hid (ht.on hbW)
  have HG := hid (ShR.great_calls p _ 300 W0 HP.out ln (by decide) (by decide))
  obtain ⟨ta, tc, rfl⟩ := hvt.slice
  obtain ⟨fa, fc, rfl, _⟩ := hvf.slice
  have l0 : ∀ w', Aft W0 w' → w'.cell? ⟨W.heap.size, 0, none⟩ = some (.slice ta p.types.length tc) := later_cells k1 0 _ rfl
  have l1 : ∀ w', Aft W0 w' → w'.cell? ⟨W.heap.size, 1, none⟩ = some (.slice fa p.funcs.length fc) := later_cells k1 1 _ rfl
  have HBW := hid hbW
  have HW := hid hW0
  have h0 := Aft.refl W0
  have HIf := hid v64f
  have HIa := hid v64a
  have HIb := hid v64b
  clear hvt hvf hp0 hbW hW0 k1 z ln ht hok v64f fw v64a aw v64b bw
  generalize p.types.length = n1 at *
  generalize p.funcs.length = n2 at *
  go_enter Tryz.func3, Tryz.ntmps3
  go_wp2_with fail
  rw [← HW.out]
  refine HG.out.mono ?_
  rintro e w1 ⟨gb, rfl, hsmall, hb1⟩
  have h1 := h0.go hb1
  clear HG hb1
  cases gb with
  | true =>
    clear hsmall
    go_wp2
    go_ret
    exact ⟨rfl, h1.out HBW.out⟩
  | false =>
  have hs := hsmall rfl
  have HS := hid hs
  clear hsmall hs
  have HTW := hid (twinRef_calls p _ w1 (HP.out.below h1.below) (ShTP.Small.fine HS.out))
  go_wp2_with fail
  refine HTW.out.mono ?_
  rintro e w2 ⟨u, rfl, hown, hb2⟩
  have h2 := h1.go hb2
  have hpu := hown.at (by have := HS.out.types; omega) (fun x hx => by have := HS.out.parts x hx; omega)
  obtain ⟨ut, uf, rfl, hut, huf⟩ := hpu
  have hpu : PrAt w2 (.agg #[ut, uf]) p := ⟨_, _, rfl, hut, huf⟩
  obtain ⟨uta, utc, rfl⟩ := hut.slice
  obtain ⟨ufa, ufc, rfl, _⟩ := huf.slice
  obtain ⟨W2, hW2, ha2, k2⟩ := kept_new w2 (.slice uta p.types.length utc) (.slice ufa p.funcs.length ufc)
  have HPU := hid (hpu.below ha2.below)
  have h3 := h2.trans ha2
  have m0 : ∀ w', Aft W2 w' → w'.cell? ⟨w2.heap.size, 0, none⟩ = some (.slice uta p.types.length utc) := later_cells k2 0 _ rfl
  have m1 : ∀ w', Aft W2 w' → w'.cell? ⟨w2.heap.size, 1, none⟩ = some (.slice ufa p.funcs.length ufc) := later_cells k2 1 _ rfl
  clear hb2 hown hut huf hpu HTW k2 ha2
  generalize p.types.length = n3 at *
  generalize p.funcs.length = n4 at *
  have HW2 := hid hW2
  clear hW2
  go_upto_region 4 with fail
  rw [← HW2.out]
  clear h2
  have C0 := hid (fun wx (h : Aft W2 wx) => CR p f a b _ wx (HPU.out.below h.below) (HT.out.on (h3.trans h).below) HS.out HOK.out HIf.out HIa.out HIb.out)
  have C1 := hid (fun wx (h : Aft W0 wx) => FdC.rules_calls p f a b _ wx (HP.out.below h.below) HS.out HOK.out)
  have C2 := hid (fun wx (h : Aft W2 wx) => CN p f b _ wx (HPU.out.below h.below) (HT.out.on (h3.trans h).below) HS.out HOK.out HIf.out HIb.out)
  have C3 := hid (fun wx (h : Aft W0 wx) => FdC.nextD_calls p f b _ wx (HP.out.below h.below) HS.out HOK.out)
  have C4 := hid (fun wx (h : Aft W2 wx) => AllC.e CA p f _ wx (HPU.out.below h.below) (HT.out.on (h3.trans h).below) HS.out HOK.out HIf.out)
  have C5 := hid (fun wx (h : Aft W0 wx) => FdC.all_calls p f _ wx (HP.out.below h.below) HS.out HOK.out)
  have CS := hid (fun wx (h : Aft W2 wx) => sameP_calls _ _ p p wx (HPU.out.below h.below) (HP.out.below (h3.trans h).below))
  rw [decide_eq_true rfl] at CS
  generalize rulesA p f a b = x0 at *
  generalize rulesE p f a b = x1 at *
  generalize nextD p f b = x2 at *
  generalize askR p f b = x3 at *
  generalize allD p f = x4 at *
  generalize findP p f = x5 at *
  have ex0 : (x0 == x0) = true := by simp
  have ex1 : (x1 == x1) = true := by simp
  have ex2 : (x2 == x2) = true := by simp
  have ex3 : (x3 == x3) = true := by simp
  have ex5 : (x5 == x5) = true := by simp
  have hw2 : Aft W2 W2 := Aft.refl W2
  clear HS HOK HP HPU HT HW2 HIf HIa HIb
  have D0 := hid (C0.out _ hw2)
  clear C0
  go_wp2_with fail
  refine D0.out.mono ?_
  rintro e w3 ⟨rfl, hb⟩
  have a3 := hw2.go hb
  have b3 := h3.trans a3
  clear hb D0
  have D1 := hid (C1.out _ (h3.trans a3))
  clear C1
  go_wp2_with fail
  refine D1.out.mono ?_
  rintro e w4 ⟨rfl, hb⟩
  have a4 := a3.go hb
  have b4 := h3.trans a4
  clear hb D1
  have D2 := hid (C2.out _ a4)
  clear C2
  go_wp2_with fail
  refine D2.out.mono ?_
  rintro e w5 ⟨rfl, hb⟩
  have a5 := a4.go hb
  have b5 := h3.trans a5
  clear hb D2
  have D3 := hid (C3.out _ (h3.trans a5))
  clear C3
  go_wp2_with fail
  refine D3.out.mono ?_
  rintro e w6 ⟨rfl, hb⟩
  have a6 := a5.go hb
  have b6 := h3.trans a6
  clear hb D3
  have D4 := hid (C4.out _ a6)
  clear C4
  go_wp2_with fail
  refine D4.out.mono ?_
  rintro e w7 ⟨u4, rfl, hu4, hb⟩
  obtain ⟨q4, c4, rfl, _⟩ := ints_slice hu4
  have HU4 := hid hu4
  clear hu4
  have a7 := a6.go hb
  have b7 := h3.trans a7
  clear hb D4
  have D5 := hid (C5.out _ (h3.trans a7))
  clear C5
  go_wp2_with fail
  refine D5.out.mono ?_
  rintro e w8 ⟨u5, rfl, hu5, hb⟩
  obtain ⟨q5, c5, rfl, _⟩ := ints_slice hu5
  have HU4 := hid (HU4.out.below hb)
  have HU5 := hid hu5
  clear hu5
  have a8 := a7.go hb
  have b8 := h3.trans a8
  clear hb D5
  have HQ := hid (sameInts_calls _ _ x4 x4 _ HU4.out HU5.out)
  rw [decide_eq_true rfl] at HQ
  go_wp2_with fail
  refine HQ.out.mono ?_
  rintro e w9 ⟨rfl, hb⟩
  have HU4 := hid (HU4.out.below hb)
  have HU5 := hid (HU5.out.below hb)
  have a9 := a8.go hb
  have b9 := h3.trans a9
  clear hb HQ
  have DS := hid (CS.out _ a9)
  clear CS
  go_wp2_with fail
  refine DS.out.mono ?_
  rintro e w10 ⟨rfl, hb⟩
  have a10 := a9.go hb
  have b10 := h3.trans a10
  clear hb DS
  have HE := hid ((h3.trans a10).out HBW.out)
  go_wp2
  go_ret
  exact ⟨rfl, HE.out⟩
end Go.Proofs.YtkohdofbjoomjaaGreatDoor.FeT
