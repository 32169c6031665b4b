/- Walk over the reference's Number (fescueref06). Walks over the reference's asked, Count, Regs (fescueref06). A walk over fescueref09.asked. A walk over fescueref09.Next. Walk over fescueref09.Come. The first numbers of a kind, in plain. A walk over fescueref09.Reached. Walks over fescueref10.asked, Ruled. Walk over fescueref10.Ruler. Walks over fescueref10.Rules, Next, All. A walk over fescueref10.All. Walks over the reference's Where, Place (fescueref06). Walk over fescueref10.IsSet. -/
import Derived.Test.YtkohdofbjoomjaaGreatDoorZShRMa
import Derived.Test.YtkohdofbjoomjaaGreatDoorZShIToDmI
import Derived.Test.YtkohdofbjoomjaaGreatDoorZRwHToShTB
import Derived.Test.YtkohdofbjoomjaaGreatDoorZShEToShER
import Derived.Test.YtkohdofbjoomjaaGreatDoorZFwRToTyRT
import Derived.BigRegion
import Derived.Test.YtkohdofbjoomjaaGreatDoorZDmRToShBP
namespace Go.Proofs.YtkohdofbjoomjaaGreatDoor.ShRH
open Go.RowKit Go.Lib RwO SetP IntO TyM TyP TyB TyC TyRA ShM ShP ShA ShB ShC ShE ShRA ShH ShI ShJ Aft

set_option maxRecDepth 100000 in
set_option maxHeartbeats 8000000 in
theorem number_calls (p : Px) (f : Int) (k : Nat) (x : Fx) (j i : Nat) (v : Value) (w : World) (hp : PrAt w v p) (h1 : Has1 p f k x) (hj : j ≤ x.blocks.length) (hle : parOf p.types x.sig + manyB x.blocks ≤ 1000000) (hi : i ≤ 1000000) :
    Calls Tryz.prog 69 #[v, .int .i64 f, .int .i64 j, .int .i64 i] w (NumR ((parOf p.types x.sig + (manyB (x.blocks.take j) + i) : Nat) : Int) w) := by
  obtain ⟨vt, vf, rfl, ht, hf⟩ := hp
  obtain ⟨W, hW⟩ : ∃ W, W = w.alloc (.cells #[vt, vf] 25) := ⟨_, rfl⟩
  have hbW : Below w.heap.size w W := by rw [hW]; exact alloc_below _ _
  have k1 : W.heap[w.heap.size]? = some (.cells #[vt, vf] 25 (0, 0)) := by rw [hW]; exact alloc_new _ _
  obtain ⟨fb, foff, fcap, vb, rfl, hfb, c0, c1, hbl⟩ := fn_at hf h1
  have htW := ht.below hbW
  have hblW := hbl.below blkStays hbW
  have hml := manyB_le x.blocks j
  have HP := hid (fun wx (hx : Aft W wx) => paramsR_calls p.types x vt (.slice (some ⟨fb, foff, none⟩) p.funcs.length fcap) vb wx (htW.below hx.below) ⟨_, _, _, rfl⟩ h1.sig0 h1.sig1 (hblW.below blkStays hx.below).slice)
  have d0 := later ((hbW.cell (p := ⟨fb, foff + k * 2, none⟩) hfb).trans c0)
  have d1 := later ((hbW.cell (p := ⟨fb, foff + k * 2 + 1, none⟩) hfb).trans c1)
  obtain ⟨ta, tc, rfl⟩ := ht.slice
  obtain ⟨ba, bc, rfl, _⟩ := hbl.slice
  obtain ⟨bb, boff, hba, -⟩ := hbl.at 0 (by have := h1.blocks1; omega)
  subst hba
  have HI := hid (fun wx (hx : Aft W wx) => many_calls (.slice (some ⟨bb, boff, none⟩) j bc) (x.blocks.take j) wx ((hblW.below blkStays hx.below).take j hj) (by omega))
  have hcap := hbl.cap
  have hjc : (j : Int) ≤ bc := by omega
  have hj0 : (0 : Int) ≤ j := by omega
  have l0 := later_cells k1 0 _ rfl; have l1 := later_cells k1 1 _ rfl
  have hkl : (k : Int) < p.funcs.length := by have := h1.lt; omega
  have hk0 : (0 : Int) ≤ k := by omega
  have hke := h1.eq
  have HBW := hid hbW
  have HW := hid hW
  have h0 := (Aft.refl W).drew
  have hw1 : IntKind.i64.wrap (((parOf p.types x.sig : Nat) : Int) + (manyB (x.blocks.take j) : Nat)) = ((parOf p.types x.sig + manyB (x.blocks.take j) : Nat) : Int) := sum_wrap (by omega)
  have hw2 : IntKind.i64.wrap (((parOf p.types x.sig : Nat) : Int) + (manyB (x.blocks.take j) : Nat) + (i : Int)) = ((parOf p.types x.sig + (manyB (x.blocks.take j) + i) : Nat) : Int) := by rw [IntWalk.i64_in _ (by omega)]; omega
  have HW1 := hid hw1
  have HW2 := hid hw2
  clear ht hf htW hblW hbW hW k1 hbl h1 c0 c1 hle hml hw1 hw2 hj
  subst hke
  generalize parOf p.types x.sig = par at *
  generalize manyB (x.blocks.take j) = nm at *
  obtain ⟨sg, bl⟩ := x
  simp only at *
  generalize p.types.length = n1 at *
  generalize p.funcs.length = n2 at *
  generalize bl.length = n4 at *
  have hwr := HW1.out
  have hwr2 := HW2.out
  have HPC := hid (HP.out _ h0)
  clear HP
  go_enter Tryz.func69, Tryz.ntmps69
  go_wp2_with fail
  rw [← HW.out]
  go_region_held3 (fun w' => Aft W w') (first | exact (h0.go hb3).go hb4 | exact h0.go hb3 | exact h0)
    (first | (go_at_call 67; refine HPC.out.mono ?_; rintro e w3 ⟨rfl, hb3⟩) | (go_at_call 68; refine (HI.out w3 (h0.go hb3)).mono ?_; rintro e w4 ⟨rfl, hb4⟩))
  all_goals
    have h4 := (h0.go hb3).go hb4
    go_wp2
    go_ret
    exact ⟨rfl, h4.out HBW.out⟩

end Go.Proofs.YtkohdofbjoomjaaGreatDoor.ShRH
namespace Go.Proofs.YtkohdofbjoomjaaGreatDoor.ShRG
open Go.RowKit Go.Lib RwO SetP IntO TyM TyP TyB TyC TyRA ShM ShP ShA ShB ShC ShE ShRA ShH ShI Aft

set_option maxRecDepth 100000 in
set_option maxHeartbeats 8000000 in
theorem asked_calls (p : Px) (f : Int) (v : Value) (w : World) (hp : PrAt w v p) (hs : Small p) (hok : POk p) :
    Calls Tryz.prog 52 #[v, .int .i64 f] w (NumR (findP p f) w) := by
  have hp0 := hp
  obtain ⟨vt, vf, rfl, ht, hf⟩ := hp
  obtain ⟨W, hW⟩ : ∃ W, W = w.alloc (.cells #[vt, vf] 25) := ⟨_, rfl⟩
  have hbW : Below w.heap.size w W := by rw [hW]; exact alloc_below _ _
  have k1 : W.heap[w.heap.size]? = some (.cells #[vt, vf] 25 (0, 0)) := by rw [hW]; exact alloc_new _ _
  have HCK := hid (checkP_calls p _ W (hp0.below hbW) hs hok)
  have HD : Hid (findP p f = if chkP p ≠ 0 then chkP p else if 0 ≤ f ∧ f < p.funcs.length then 0 else 2) := rfl
  obtain ⟨ta, tc, rfl⟩ := ht.slice
  obtain ⟨fa, fc, rfl, hfl⟩ := hf.slice
  have l0 := later_cells k1 0 _ rfl; have l1 := later_cells k1 1 _ rfl
  generalize findP p f = ans at *
  generalize chkP p = ck at *
  have HBW := hid hbW
  have HW := hid hW
  have h0 := Aft.refl W
  clear ht hf hbW hW hs hok k1 hp0
  generalize p.types.length = n1 at *
  generalize p.funcs.length = n2 at *
  by_cases hc : ck = 0
  rotate_left
  · rw [if_pos hc] at HD
    have e0 : (ck == 0) = false := by simpa using hc
    go_enter Tryz.func52, Tryz.ntmps52
    go_wp2_with fail
    rw [← HW.out]
    refine HCK.out.mono ?_
    rintro e w1 ⟨rfl, hb1⟩
    have h1 := h0.go hb1
    clear HCK hb1 hc
    go_wp2
    go_ret
    exact ⟨by rw [HD.out]; rfl, h1.out HBW.out⟩
  rw [if_neg (fun h => h hc)] at HD
  subst hc
  go_enter Tryz.func52, Tryz.ntmps52
  go_wp2_with fail
  rw [← HW.out]
  refine HCK.out.mono ?_
  rintro e w1 ⟨rfl, hb1⟩
  have h1 := h0.go hb1
  have HE := hid (h1.out HBW.out)
  clear HCK hb1
  by_cases f0 : f < 0
  · rw [if_neg (by omega)] at HD
    go_wp2 <;> first | (exfalso; omega) | (go_ret; exact ⟨by rw [HD.out]; rfl, HE.out⟩)
  · by_cases f1 : (n2 : Int) ≤ f
    · rw [if_neg (by omega)] at HD
      go_wp2 <;> first | (exfalso; omega) | (go_ret; exact ⟨by rw [HD.out]; rfl, HE.out⟩)
    · rw [if_pos (by omega)] at HD
      go_wp2 <;> first | (exfalso; omega) | (go_ret; exact ⟨by rw [HD.out]; rfl, HE.out⟩)
end Go.Proofs.YtkohdofbjoomjaaGreatDoor.ShRG

namespace Go.Proofs.YtkohdofbjoomjaaGreatDoor.ShRH
open Go.RowKit Go.Lib RwO SetP IntO TyM TyP TyB TyC TyRA ShM ShP ShA ShB ShC ShE ShRA ShH ShI ShJ Aft

set_option maxRecDepth 100000 in
set_option maxHeartbeats 8000000 in
theorem count_calls (p : Px) (f : Int) (k : Nat) (x : Fx) (v : Value) (w : World) (hp : PrAt w v p) (h1 : Has1 p f k x) (hle : parOf p.types x.sig + manyB x.blocks ≤ 1000000) :
    Calls Tryz.prog 53 #[v, .int .i64 f] w (NumR ((parOf p.types x.sig + manyB x.blocks : Nat) : Int) w) := by
  obtain ⟨vt, vf, rfl, ht, hf⟩ := hp
  obtain ⟨W, hW⟩ : ∃ W, W = w.alloc (.cells #[vt, vf] 25) := ⟨_, rfl⟩
  have hbW : Below w.heap.size w W := by rw [hW]; exact alloc_below _ _
  have k1 : W.heap[w.heap.size]? = some (.cells #[vt, vf] 25 (0, 0)) := by rw [hW]; exact alloc_new _ _
  obtain ⟨fb, foff, fcap, vb, rfl, hfb, c0, c1, hbl⟩ := fn_at hf h1
  have htW := ht.below hbW
  have hblW := hbl.below blkStays hbW
  have HP := hid (fun wx (hx : Aft W wx) => paramsR_calls p.types x vt (.slice (some ⟨fb, foff, none⟩) p.funcs.length fcap) vb wx (htW.below hx.below) ⟨_, _, _, rfl⟩ h1.sig0 h1.sig1 (hblW.below blkStays hx.below).slice)
  have HI := hid (fun wx (hx : Aft W wx) => many_calls vb x.blocks wx (hblW.below blkStays hx.below) (by omega))
  have HWR := hid (sum_wrap hle)
  have d0 := later ((hbW.cell (p := ⟨fb, foff + k * 2, none⟩) hfb).trans c0)
  have d1 := later ((hbW.cell (p := ⟨fb, foff + k * 2 + 1, none⟩) hfb).trans c1)
  obtain ⟨ta, tc, rfl⟩ := ht.slice
  obtain ⟨ba, bc, rfl, _⟩ := hbl.slice
  have l0 := later_cells k1 0 _ rfl; have l1 := later_cells k1 1 _ rfl
  have hkl : (k : Int) < p.funcs.length := by have := h1.lt; omega
  have hk0 : (0 : Int) ≤ k := by omega
  have hke := h1.eq
  have HBW := hid hbW
  have HW := hid hW
  have h0 := (Aft.refl W).drew
  clear ht hf htW hblW hbW hW k1 hbl h1 c0 c1 hle
  subst hke
  generalize parOf p.types x.sig = par at *
  generalize manyB x.blocks = nm at *
  obtain ⟨sg, bl⟩ := x
  simp only at *
  generalize p.types.length = n1 at *
  generalize p.funcs.length = n2 at *
  generalize bl.length = n4 at *
  have hwr := HWR.out
  have HPC := hid (HP.out _ h0)
  clear HP
  go_enter Tryz.func53, Tryz.ntmps53
  go_wp2_with fail
  rw [← HW.out]
  go_region_held3 (fun w' => Aft W w') (first | exact (h0.go hb3).go hb4 | exact h0.go hb3 | exact h0)
    (first | (go_at_call 67; refine HPC.out.mono ?_; rintro e w3 ⟨rfl, hb3⟩) | (go_at_call 68; refine (HI.out w3 (h0.go hb3)).mono ?_; rintro e w4 ⟨rfl, hb4⟩))
  all_goals
    have h4 := (h0.go hb3).go hb4
    go_wp2
    go_ret
    exact ⟨rfl, h4.out HBW.out⟩
end Go.Proofs.YtkohdofbjoomjaaGreatDoor.ShRH

namespace Go.Proofs.YtkohdofbjoomjaaGreatDoor.ShRI
open Go.RowKit Go.Lib RwO SetP IntO TyM TyP TyB TyC TyRA ShM ShP ShA ShB ShC ShE ShRA ShH ShI ShJ ShRG ShRH Aft

set_option maxRecDepth 100000 in
set_option maxHeartbeats 8000000 in
theorem regsR_calls (p : Px) (f : Int) (v : Value) (w : World) (hp : PrAt w v p) (hs : Small p) (hok : POk p) :
    Calls Tryz.prog 61 #[v, .int .i64 f] w (TwoR (if findP p f = 0 then (cntP p f : Int) else 0) (findP p f) w) := by
  have hp0 := hp
  obtain ⟨vt, vf, rfl, ht, hf⟩ := hp
  obtain ⟨W, hW⟩ : ∃ W, W = w.alloc (.cells #[vt, vf] 25) := ⟨_, rfl⟩
  have hbW : Below w.heap.size w W := by rw [hW]; exact alloc_below _ _
  have k1 : W.heap[w.heap.size]? = some (.cells #[vt, vf] 25 (0, 0)) := by rw [hW]; exact alloc_new _ _
  have hpW := hp0.below hbW
  have HA := hid (asked_calls p f _ W hpW hs hok)
  have HCT := hid (fun (k : Nat) (x : Fx) (h : Has1 p f k x) (hle : parOf p.types x.sig + manyB x.blocks ≤ 1000000) wx (hx : Aft W wx) => count_calls p f k x _ wx (hpW.below hx.below) h hle)
  obtain ⟨ta, tc, rfl⟩ := ht.slice
  obtain ⟨fa, fc, rfl, _⟩ := hf.slice
  have l0 := later_cells k1 0 _ rfl; have l1 := later_cells k1 1 _ rfl
  have HBW := hid hbW
  have HW := hid hW
  have h0 := Aft.refl W
  have HS := hid hs
  clear ht hf hpW hbW hW k1 hp0 hs hok
  by_cases hz : findP p f = 0
  rotate_left
  · rw [if_neg hz]
    have e0 : (findP p f != 0) = true := by simpa using hz
    clear HCT HS hz
    generalize findP p f = fe at *
    generalize p.types.length = n1 at *
    generalize p.funcs.length = n2 at *
    go_enter Tryz.func61, Tryz.ntmps61
    go_wp2_with fail
    rw [← HW.out]
    refine HA.out.mono ?_
    rintro e w1 ⟨rfl, hb1⟩
    have h1 := h0.go hb1
    clear HA hb1
    go_wp2
    go_ret2
    exact ⟨rfl, h1.out HBW.out⟩
  obtain ⟨k, x, h1⟩ := has1 hz
  rw [if_pos hz, cnt_at h1]
  have hle : parOf p.types x.sig + manyB x.blocks ≤ 1000000 := by
    have := par_le HS.out.parts h1.sig0 h1.sig1
    have := h1.many
    omega
  have HC := hid (HCT.out k x h1 hle)
  rw [hz] at HA ⊢
  clear HCT HS hz hle h1
  generalize parOf p.types x.sig + manyB x.blocks = cnt at *
  generalize p.types.length = n1 at *
  generalize p.funcs.length = n2 at *
  go_enter Tryz.func61, Tryz.ntmps61
  go_wp2_with fail
  rw [← HW.out]
  refine HA.out.mono ?_
  rintro e w1 ⟨rfl, hb1⟩
  have h1 := h0.go hb1
  have HC1 := hid (HC.out w1 h1)
  clear HA hb1 HC
  go_wp2_with fail
  refine HC1.out.mono ?_
  rintro e w2 ⟨rfl, hb2⟩
  have h2 := h1.go hb2
  clear HC1 hb2
  go_wp2
  go_ret2
  exact ⟨rfl, h2.out HBW.out⟩
end Go.Proofs.YtkohdofbjoomjaaGreatDoor.ShRI
namespace Go.Proofs.YtkohdofbjoomjaaGreatDoor.FvB
open Go.RowKit Go.Lib RwO SetP IntO TyM TyP TyB TyC TyRA ShM ShP ShA ShB ShC ShE ShRA ShH ShI ShJ ShRG ShRH ShRI Aft FwP FwQ FwR FvA

/-- one of the functions in memory, in every world behind -/
theorem fn_later {W : World} {vf : Value} {p : Px} {f : Int} {k : Nat} {x : Fx} (h : FnsAt W vf p.funcs) (h1 : Has1 p f k x) : ∃ b off cap ao c, vf = .slice (some ⟨b, off, none⟩) p.funcs.length cap ∧ (∀ w', Aft W w' → w'.cell? ⟨b, off + k * 2, none⟩ = some (.int .i64 x.sig)) ∧ (∀ w', Aft W w' → w'.cell? ⟨b, off + k * 2 + 1, none⟩ = some (.slice ao x.blocks.length c)) ∧ BlksAt W (.slice ao x.blocks.length c) x.blocks := by
  obtain ⟨b, off, cap, vb, rfl, hb, c0, c1, hbl⟩ := fn_at h h1
  obtain ⟨ao, c, rfl, _⟩ := hbl.slice
  exact ⟨b, off, cap, ao, c, rfl, later c0, later c1, hbl⟩

set_option maxRecDepth 100000 in
set_option maxHeartbeats 8000000 in
theorem asked_calls (p : Px) (f b : Int) (v : Value) (w : World) (hp : PrAt w v p) (hs : Small p) (hok : POk p) :
    Calls Tryz.prog 41 #[v, .int .i64 f, .int .i64 b] w (NumR (askB p f b) w) := by
  have hp0 := hp
  obtain ⟨vt, vf, rfl, ht, hf⟩ := hp
  obtain ⟨W, hW⟩ : ∃ W, W = w.alloc (.cells #[vt, vf] 25) := ⟨_, rfl⟩
  have hbW : Below w.heap.size w W := by rw [hW]; exact alloc_below _ _
  have k1 : W.heap[w.heap.size]? = some (.cells #[vt, vf] 25 (0, 0)) := by rw [hW]; exact alloc_new _ _
  have hpW := hp0.below hbW
  have HR := hid (regsR_calls p f _ W hpW hs hok)
  have HFN := hid (fun (k : Nat) (x : Fx) (h1 : Has1 p f k x) => fn_later (hf.below fnStays hbW) h1)
  obtain ⟨ta, tc, rfl⟩ := ht.slice
  obtain ⟨fa, fc, rfl, _⟩ := hf.slice
  have l0 := later_cells k1 0 _ rfl; have l1 := later_cells k1 1 _ rfl
  have HBW := hid hbW
  have HW := hid hW
  have h0 := Aft.refl W
  clear ht hf hpW hbW hW k1 hp0 hs hok
  by_cases hz : findP p f = 0
  rotate_left
  · rw [ask_find hz]
    have e0 : (findP p f != 0) = true := by simpa using hz
    clear HFN hz
    rw [if_neg (by simpa using e0)] at HR
    generalize findP p f = fe at *
    generalize p.types.length = n1 at *
    generalize p.funcs.length = n2 at *
    go_enter Tryz.func41, Tryz.ntmps41
    go_wp2_with fail
    rw [← HW.out]
    refine HR.out.mono ?_
    rintro e w1 ⟨rfl, hb1⟩
    have h1 := h0.go hb1
    clear HR hb1
    go_wp2
    go_ret
    exact ⟨rfl, h1.out HBW.out⟩
  obtain ⟨k, x, h1⟩ := has1 hz
  have HAY := hid (fun h0 h1 => ask_yes (p := p) (f := f) (b := b) hz h0 h1)
  have HAN := hid (fun h => ask_no (p := p) (f := f) (b := b) hz h)
  rw [fn_blocks h1] at HAY HAN
  obtain ⟨fb, foff, fcap, ao, bc, he, d0, d1, _⟩ := HFN.out k x h1
  cases he
  rw [hz, if_pos rfl] at HR
  generalize (cntP p f : Int) = cnt at *
  have hke := h1.eq
  have hkl := h1.lt
  have hbl := h1.blocks
  have HBL := hid hbl
  clear HFN hz h1 hbl
  subst hke
  generalize askB p (k : Int) b = ans at *
  obtain ⟨sg, bl⟩ := x
  simp only at *
  generalize p.types.length = n1 at *
  generalize p.funcs.length = n2 at *
  generalize bl.length = n3 at *
  by_cases b0 : b < 0
  · have HA := hid (HAN.out (by omega))
    clear HAY HAN
    go_enter Tryz.func41, Tryz.ntmps41
    go_wp2_with fail
    rw [← HW.out]
    refine HR.out.mono ?_
    rintro e w1 ⟨rfl, hb1⟩
    have h1 := h0.go hb1
    have HE := hid (h1.out HBW.out)
    clear HR hb1
    go_wp2
    all_goals first | (exfalso; omega) | (go_ret; exact ⟨by rw [HA.out]; rfl, HE.out⟩)
  by_cases b1 : (n3 : Int) ≤ b
  · have HA := hid (HAN.out (by omega))
    clear HAY HAN
    go_enter Tryz.func41, Tryz.ntmps41
    go_wp2_with fail
    rw [← HW.out]
    refine HR.out.mono ?_
    rintro e w1 ⟨rfl, hb1⟩
    have h1 := h0.go hb1
    have HE := hid (h1.out HBW.out)
    clear HR hb1
    go_wp2
    all_goals first | (exfalso; omega) | (go_ret; exact ⟨by rw [HA.out]; rfl, HE.out⟩)
  · have HA := hid (HAY.out (by omega) (by omega))
    clear HAY HAN
    go_enter Tryz.func41, Tryz.ntmps41
    go_wp2_with fail
    rw [← HW.out]
    refine HR.out.mono ?_
    rintro e w1 ⟨rfl, hb1⟩
    have h1 := h0.go hb1
    have HE := hid (h1.out HBW.out)
    clear HR hb1
    go_wp2
    all_goals first | (exfalso; omega) | (go_ret; exact ⟨by rw [HA.out]; rfl, HE.out⟩)

/-- a block's end, in every world behind -/
theorem end_later {W : World} {ao : Option Addr} {n c : Nat} {l : List Bx} (h : BlksAt W (.slice ao n c) l) (b : Nat) (hb : b < l.length) : ∃ g off, ao = some ⟨g, off, none⟩ ∧ ∀ w', Aft W w' → w'.cell? ⟨g, off + b * 5 + 1, none⟩ = some (.int .u8 (endAt l b).kind) ∧ w'.cell? ⟨g, off + b * 5 + 2, none⟩ = some (.int .i64 (endAt l b).a) ∧ w'.cell? ⟨g, off + b * 5 + 3, none⟩ = some (.int .i64 (endAt l b).to) ∧ w'.cell? ⟨g, off + b * 5 + 4, none⟩ = some (.int .i64 (endAt l b).els) := by
  obtain ⟨g, off, rfl, hlt, vi, c0, c1, c2, c3, c4, _⟩ := h.at b hb
  have he : endAt l b = l[b].en := by unfold endAt; rw [List.getElem?_eq_getElem hb]; rfl
  rw [he]
  exact ⟨g, off, rfl, fun w' h => ⟨later c1 w' h, later c2 w' h, later c3 w' h, later c4 w' h⟩⟩
end Go.Proofs.YtkohdofbjoomjaaGreatDoor.FvB
namespace Go.Proofs.YtkohdofbjoomjaaGreatDoor.FvB
open Go.RowKit Go.Lib RwO SetP IntO TyM TyP TyB TyC TyRA ShM ShP ShA ShB ShC ShE ShRA ShH ShI ShJ ShRG ShRH ShRI Aft FwP FwQ FwR FvA

set_option maxRecDepth 100000 in
set_option maxHeartbeats 8000000 in
theorem next_calls (p : Px) (f b : Int) (v : Value) (w : World) (hp : PrAt w v p) (hs : Small p) (hok : POk p) :
    Calls Tryz.prog 22 #[v, .int .i64 f, .int .i64 b] w (LstE (nextA p f b) (askB p f b) w) := by
  have hp0 := hp
  obtain ⟨vt, vf, rfl, ht, hf⟩ := hp
  obtain ⟨W, hW⟩ : ∃ W, W = w.alloc (.cells #[vt, vf] 25) := ⟨_, rfl⟩
  have hbW : Below w.heap.size w W := by rw [hW]; exact alloc_below _ _
  have k1 : W.heap[w.heap.size]? = some (.cells #[vt, vf] 25 (0, 0)) := by rw [hW]; exact alloc_new _ _
  have hpW := hp0.below hbW
  have HR := hid (asked_calls p f b _ W hpW hs hok)
  have HFN := hid (fun (k : Nat) (x : Fx) (h1 : Has1 p f k x) => fn_later (hf.below fnStays hbW) h1)
  obtain ⟨ta, tc, rfl⟩ := ht.slice
  obtain ⟨fa, fc, rfl, _⟩ := hf.slice
  have l0 := later_cells k1 0 _ rfl; have l1 := later_cells k1 1 _ rfl
  have HBW := hid hbW
  have HW := hid hW
  have h0 := Aft.refl W
  clear ht hf hpW hbW hW k1 hp0 hs hok
  by_cases hz : askB p f b = 0
  rotate_left
  · have HN : Hid (nextA p f b = []) := by show _ = _; unfold nextA; rw [if_neg hz]
    have e0 : (askB p f b != 0) = true := by simpa using hz
    clear HFN hz
    generalize nextA p f b = na at *
    generalize askB p f b = fe at *
    generalize p.types.length = n1 at *
    generalize p.funcs.length = n2 at *
    go_enter Tryz.func22, Tryz.ntmps22
    go_wp2_with fail
    rw [← HW.out]
    refine HR.out.mono ?_
    rintro e w1 ⟨rfl, hb1⟩
    have h1 := h0.go hb1
    clear HR hb1
    go_wp2
    go_ret2
    exact ⟨_, rfl, by rw [HN.out]; exact ints_none _, h1.out HBW.out⟩
  obtain ⟨hz1, b0, b1⟩ := ask_zero hz
  obtain ⟨k, x, h1⟩ := has1 hz1
  have HN : Hid (nextA p f b = toE (endAt x.blocks b.toNat)) := by show _ = _; unfold nextA; rw [if_pos hz, fn_blocks h1]
  rw [fn_blocks h1] at b1
  obtain ⟨j, hj⟩ : ∃ j : Nat, b = j := ⟨b.toNat, by omega⟩
  subst hj
  rw [Int.toNat_natCast] at HN
  obtain ⟨fb, foff, fcap, ao, bc, he, d0, d1, hbl⟩ := HFN.out k x h1
  cases he
  have hjl : j < x.blocks.length := by omega
  obtain ⟨eb, eoff, rfl, heL⟩ := end_later hbl j hjl
  have HT := hid (fun wx => to_calls (endAt x.blocks j) wx)
  have HTL := hid (toE_len (endAt x.blocks j))
  rw [hz] at HR ⊢
  have hke := h1.eq
  have hkl := h1.lt
  clear HFN hz h1 hz1 b0 b1 hbl
  subst hke
  generalize nextA p (k : Int) (j : Int) = na at *
  obtain ⟨sg, bl⟩ := x
  simp only at *
  generalize toE (endAt bl j) = tl at *
  generalize endAt bl j = x at *
  obtain ⟨ek, ea, et, ee⟩ := x
  simp only at *
  have q1 := fun w' h => (heL w' h).1
  have q2 := fun w' h => (heL w' h).2.1
  have q3 := fun w' h => (heL w' h).2.2.1
  have q4 := fun w' h => (heL w' h).2.2.2
  clear heL
  generalize p.types.length = n1 at *
  generalize p.funcs.length = n2 at *
  generalize bl.length = n3 at *
  go_enter Tryz.func22, Tryz.ntmps22
  go_wp2_with fail
  rw [← HW.out]
  refine HR.out.mono ?_
  rintro e w1 ⟨rfl, hb1⟩
  have h1 := h0.go hb1
  clear HR hb1
  go_wp2_with fail
  refine (HT.out w1).mono ?_
  rintro e w2 ⟨u, m, rfl, hu, hb2⟩
  have h2 := h1.go hb2
  have HU := hid (intsAt_of_owns hu (by have := HTL.out; omega))
  clear HT hb2 hu
  go_wp2
  go_ret2
  exact ⟨_, rfl, by rw [HN.out]; exact HU.out, h2.out HBW.out⟩
end Go.Proofs.YtkohdofbjoomjaaGreatDoor.FvB
namespace Go.Proofs.YtkohdofbjoomjaaGreatDoor.FvD
open Go.RowKit Go.Lib RwO SetP IntO TyM TyP TyB TyC ShM ShP ShA ShB ShC ShE ShH ShI ShJ Aft FwM FwC FwP FwQ FwR FvA FvB FvC FvP RwB

/-- a row of bools -/
def BoolsR (bs : List Bool) (w : World) (e : Ending) (w' : World) : Prop := ∃ g, e = .returned (.slice (some ⟨g, 0, none⟩) bs.length bs.length) ∧ RowB w.heap.size g bs w' ∧ Below w.heap.size w w'

theorem ne_dec (a b : Int) : (a != b) = decide (a ≠ b) := by
  by_cases h : a = b <;> simp [h]

set_option maxRecDepth 100000 in
set_option maxHeartbeats 8000000 in
theorem come_calls (l : List Bx) (first : List Nat) (but : Int) (vl vf : Value) (w : World) (hl : BlksAt w vl l) (hf : IntsAt w vf (ints first)) (hlow : Low l) (hfl : ∀ a ∈ first, a < l.length) (hlen : l.length ≤ 1000) :
    Calls Tryz.prog 43 #[vl, vf, .int .i64 but] w (BoolsR (comeO (succ l) but l.length first) w) := by
  have HL := hid hl
  have HF := hid hf
  have HLOW := hid hlow
  have HFL := hid hfl
  have HLEN := hid hlen
  obtain ⟨ao, cap, rfl, hll⟩ := hl.slice
  obtain ⟨fo, fc, rfl, hfll⟩ := ints_slice hf
  rw [ints_length] at HF hfll ⊢
  clear hl hf hlow hfl
  obtain ⟨i0, hi, hz0, hz1, hz2⟩ := info_parts info_bool
  have hmk : ∀ wx : World, (Instr.makeSlice 94 (.int .i64 (l.length : Int)) (.int .i64 (l.length : Int))).run Tryz.prog wx = .ok (.slice (some ⟨wx.heap.size, 0, none⟩) l.length l.length) (wx.alloc (.cells (madeCells (Value.bool false).cells l.length) 4)) := by
    intro wx
    have := run_make (P := Tryz.prog) wx 94 4 i0 (.bool false) Tryz.underlying94 hi hz0 .i64 .i64 l.length l.length (by omega) (by omega) (by rw [hz2]; omega) (by omega)
    rw [hz1, Int.toNat_natCast, Nat.mul_one] at this
    exact this
  have HR0 := hid (row_made w w.heap.size l.length (Nat.le_refl _) hlen)
  have HB0 := hid (alloc_below w (.cells (madeCells (Value.bool false).cells l.length) 4))
  clear hi hlen hz0 hz1 hz2
  go_enter Tryz.func43, Tryz.ntmps43
  go_wp2
  go_loopg [8] first.length (fun gk iv wr => ∃ i : Nat, i + gk = first.length ∧ iv = .int .i64 i ∧ RowB w.heap.size w.heap.size (startO but l.length first i) wr ∧ Below w.heap.size w wr)
  case atStart => exact ⟨0, by omega, rfl, HR0.out, HB0.out⟩
  case round =>
    obtain ⟨i, hi, rfl, hrow, hbe⟩ := hrel
    have HI := hid hi
    have HROW := hid hrow
    have HBE := hid hbe
    clear hi hrow hmk
    by_cases hlt : i < first.length
    · have HLT := hid hlt
      obtain ⟨b2, o2, rfl, _, c2⟩ := TyP.ints_at (HF.out.below hbe) i (by rw [ints_length]; exact hlt)
      rw [nums_at hlt] at c2
      have hm := HFL.out first[i] (List.getElem_mem hlt)
      have HNX := hid (startO_succ (but := but) (n := l.length) hlt)
      obtain ⟨b, _, _, hy, hfz⟩ := HROW.out.at first[i] (by rw [startO_len]; exact hm)
      have HST := hid (fun v => HROW.out.set first[i] v)
      have hm1 : (first[i] : Int) < (l.length : Int) := by omega
      have hlt1 : (i : Int) < (first.length : Int) := by omega
      clear hbe
      generalize first[i] = m at *
      go_wp2
      go_region
      all_goals
        obtain ⟨wd, hwd⟩ : ∃ wd, wd = (wr.setCell ⟨w.heap.size, m, none⟩ (.bool ((m : Int) != but))).drew := ⟨_, rfl⟩
        rw [← hwd]
        have HBE2 : Hid (Below w.heap.size w wd) := by show Below _ _ _; rw [hwd]; exact (HBE.out.setCell (p := ⟨w.heap.size, m, none⟩) (Nat.le_refl _) _).drew
        have HR2 : Hid (RowB w.heap.size w.heap.size ((startO but l.length first i).set m (decide ((m : Int) ≠ but))) wd) := by show RowB _ _ _ _; rw [hwd, ne_dec]; exact (HST.out _).below ((Below.refl _ _).drew)
        clear hwd
        go_wp2
        go_roundg (gk - 1)
        case measure => have := HI.out; have := HLT.out; omega
        case rel => exact ⟨i + 1, by have := HI.out; have := HLT.out; omega, by go_num, by rw [HNX.out]; exact HR2.out, HBE2.out⟩
    · obtain rfl : i = first.length := by have := HI.out; omega
      rw [startO_all] at HROW
      have HSL : Hid ((FwC.start but l.length first).length = l.length) := FwC.start_len _ _ _
      have HCO : Hid (comeO (succ l) but l.length first = passes (succ l) but l.length l.length (FwC.start but l.length first)) := rfl
      generalize comeO (succ l) but l.length first = ans at *
      generalize FwC.start but l.length first = st at *
      obtain ⟨wo, hwo⟩ : ∃ wo : World, wo = wr := ⟨wr, rfl⟩
      subst hwo
      clear HI HR0 HB0 HF HFL
      generalize first.length = fl at *
      clear hlt hbe
      go_wp2
      go_loopg [9] l.length (fun gk nv wr => ∃ n : Nat, n + gk = l.length ∧ nv = .int .i64 n ∧ RowB w.heap.size w.heap.size (passes (succ l) but l.length n st) wr ∧ Below w.heap.size w wr)
      case atStart => exact ⟨0, by omega, rfl, HROW.out, HBE.out⟩
      case round =>
        obtain ⟨n, hn, rfl, hrow, hbe⟩ := hrel
        have HN := hid hn
        have HROW2 := hid hrow
        have HBE2 := hid hbe
        clear hn hrow
        by_cases hlt : n < l.length
        · have HLT := hid hlt
          have HPL : Hid ((passes (succ l) but l.length n st).length = l.length) := (passes_len _ _ _ _ _).trans HSL.out
          have HNX : Hid (passes (succ l) but l.length (n + 1) st = midO (succ l) but (passes (succ l) but l.length n st) l.length) := passes_snoc _ _ _ _ _
          generalize passes (succ l) but l.length n st = bs0 at *
          obtain ⟨wn, hwn⟩ : ∃ wn : World, wn = wr := ⟨wr, rfl⟩
          subst hwn
          obtain ⟨g2, hg2⟩ : ∃ g2 : Nat, g2 = gk := ⟨gk, rfl⟩
          subst hg2
          clear hbe HROW HBE
          go_wp2
          go_loopg [10] l.length (fun gk3 iv wr => ∃ i : Nat, i + gk3 = l.length ∧ iv = .int .i64 i ∧ RowB w.heap.size w.heap.size (midO (succ l) but bs0 i) wr ∧ Below w.heap.size w wr)
          case atStart => exact ⟨0, by omega, rfl, HROW2.out, HBE2.out⟩
          case round =>
            obtain ⟨i, hi, rfl, hrow, hbe⟩ := hrel
            have HI := hid hi
            have HROW3 := hid hrow
            have HBE3 := hid hbe
            clear hi hrow
            by_cases hlti : i < l.length
            · have HLTI := hid hlti
              obtain ⟨g, off, rfl, heL⟩ := end_later (HL.out.below blkStays hbe) i hlti
              have HT := hid (fun wx => to_calls (endAt l i) wx)
              rw [← ints_succ HLOW.out hlti] at HT
              have HSX := hid (fun j (hj : j ∈ succ l i) => succ_lt HLOW.out i hlti j hj)
              have HSL2 := hid (succ_len l i)
              have HML : Hid ((midO (succ l) but bs0 i).length = l.length) := (midO_len _ _ _ _).trans HPL.out
              have HYES := hid (midO_yes (t := succ l) (but := but) (out := bs0) (i := i))
              have HNO := hid (midO_no (t := succ l) (but := but) (out := bs0) (i := i))
              have HBI : Hid (∃ b, (midO (succ l) but bs0 i)[i]? = some b) := ⟨_, List.getElem?_eq_getElem (by rw [HML.out]; exact hlti)⟩
              generalize midO (succ l) but bs0 i = bs1 at *
              generalize succ l i = tl at *
              generalize endAt l i = x at *
              obtain ⟨ek, ea, et, ee⟩ := x
              simp only at *
              have q1 := fun w' h => (heL w' h).1
              have q2 := fun w' h => (heL w' h).2.1
              have q3 := fun w' h => (heL w' h).2.2.1
              have q4 := fun w' h => (heL w' h).2.2.2
              obtain ⟨wp, hwp⟩ : ∃ wp : World, wp = wr := ⟨wr, rfl⟩
              subst hwp
              have h0 := Aft.refl wp
              clear heL hbe HROW2 HBE2
              go_wp2_with fail
              refine (HT.out wp).mono ?_
              rintro e w1 ⟨u, m, rfl, hu, hb1⟩
              have h1 := h0.go hb1
              obtain rfl : m = tl.length := by have := hu.1; rw [intVals_length, ints_length] at this; omega
              have HR1 := hid (HROW3.out.below hb1)
              have HB1 := hid (h1.out HBE3.out)
              have HGB : Hid (w.heap.size < wp.heap.size) := by
                obtain ⟨_, _, _, hc, _⟩ := HROW3.out.at i (by rw [HML.out]; exact hlti)
                exact World.block_lt_of_cell? _ ⟨w.heap.size, i, none⟩ hc
              have HOU := hid hu
              obtain ⟨ua, un, rfl⟩ := own_slice hu
              clear HT hb1 hu h0 h1 HROW3 HBE3
              obtain ⟨bi, hbi⟩ := HBI.out
              obtain ⟨g3, hg3⟩ : ∃ g3 : Nat, g3 = gk := ⟨gk, rfl⟩
              subst hg3
              have hhas := has_at hbi
              cases bi with
              | false =>
                have HNX2 := hid (HNO.out hhas)
                have HHI := hid hbi
                clear HYES HNO HBI hbi hhas
                go_wp2_with fail
                go_loopg [12] 0 (fun gk4 kv wr => kv = .int .i64 0 ∧ RowB w.heap.size w.heap.size bs1 wr ∧ Below w.heap.size w wr)
                case atStart => exact ⟨rfl, HR1.out, HB1.out⟩
                case round =>
                  obtain ⟨rfl, hrow, hbe⟩ := hrel
                  have HR4 := hid hrow
                  have HB4 := hid hbe
                  obtain ⟨b, hb, _, hy, _⟩ := hrow.at i (by rw [HML.out]; exact hlti)
                  rw [HHI.out] at hb
                  cases hb
                  have hli : (i : Int) < (l.length : Int) := by omega
                  clear hrow hbe
                  by_cases h0l : 0 < tl.length
                  all_goals
                    go_wp2
                    go_roundg (g3 - 1)
                    case measure => have := HI.out; have := HLTI.out; omega
                    case rel => exact ⟨i + 1, by have := HI.out; have := HLTI.out; omega, by go_num, by rw [HNX2.out]; exact HR4.out, HB4.out⟩
              | true =>
                have HNX2 := hid (HYES.out hhas)
                have HHS := hid hhas
                clear HYES HNO HBI hbi hhas
                go_wp2_with fail
                go_loopg [12] tl.length (fun gk4 kv wr => ∃ k : Nat, k + gk4 = tl.length ∧ kv = .int .i64 k ∧ RowB w.heap.size w.heap.size (inO but tl k bs1) wr ∧ Below w.heap.size w wr ∧ wr.ownsRow wp.heap.size 3 1 (.slice ua tl.length un) tl.length (intVals (ints tl)))
                case atStart => exact ⟨0, by omega, rfl, HR1.out, HB1.out, HOU.out⟩
                case round =>
                  obtain ⟨k, hk, rfl, hrow, hbe, hou⟩ := hrel
                  have HK := hid hk
                  have HR4 := hid hrow
                  have HB4 := hid hbe
                  have HO4 := hid hou
                  obtain ⟨b, hb, _, hy, _⟩ := hrow.at i (by rw [inO_len, HML.out]; exact hlti)
                  have hbt := has_at hb
                  rw [inO_has HHS.out] at hbt
                  subst hbt
                  have hli : (i : Int) < (l.length : Int) := by omega
                  by_cases hltk : k < tl.length
                  · have HLTK := hid hltk
                    have hai := intsAt_of_owns hou (by rw [ints_length]; have := HSL2.out; omega)
                    obtain ⟨b2, o2, rfl, _, c2⟩ := TyP.ints_at hai k (by rw [ints_length]; exact hltk)
                    rw [nums_at hltk] at c2
                    have hj := HSX.out tl[k] (List.getElem_mem hltk)
                    have HNX3 := hid (inO_succ (but := but) (out := bs1) hltk)
                    obtain ⟨bj, hbj, _, hyj, hfz⟩ := hrow.at tl[k] (by rw [inO_len, HML.out]; exact hj)
                    have hjb := has_at hbj
                    have HST := hid (fun v => hrow.set tl[k] v)
                    have HOS := hid (fun v => owns_set (i := tl[k]) (u := v) hou HGB.out)
                    have hj1 : (tl[k] : Int) < (l.length : Int) := by omega
                    have hk1 : (k : Int) < (tl.length : Int) := by omega
                    have hkb : k ≤ 9223372036854775806 := by have := HSL2.out; omega
                    clear hrow hbe hou hai hk hb hbj
                    generalize tl[k] = j at *
                    rw [hjb] at HNX3
                    clear hjb
                    cases bj with
                    | true =>
                      go_wp2
                      go_region
                      all_goals
                        obtain ⟨wd, hwd⟩ : ∃ wd, wd = (wr.setCell ⟨w.heap.size, j, none⟩ (.bool (true))).drew := ⟨_, rfl⟩
                        rw [← hwd]
                        have HB5 : Hid (Below w.heap.size w wd) := by show Below _ _ _; rw [hwd]; exact (HB4.out.setCell (p := ⟨w.heap.size, j, none⟩) (Nat.le_refl _) _).drew
                        have HR5 : Hid (RowB w.heap.size w.heap.size (inO but tl (k + 1) bs1) wd) := by show RowB _ _ _ _; rw [HNX3.out, hwd]; exact (HST.out _).below ((Below.refl _ _).drew)
                        have HO5 : Hid (wd.ownsRow wp.heap.size 3 1 (.slice (some ⟨b2, o2, none⟩) tl.length un) tl.length (intVals (ints tl))) := by show World.ownsRow _ _ _ _ _ _ _; rw [hwd]; exact ownsRow_below (HOS.out _) ((Below.refl _ _).drew)
                        clear hwd HOS HST HNX3
                        go_wp2
                        go_roundg (gk - 1)
                        case measure => have := HK.out; have := HLTK.out; omega
                        case rel => exact ⟨k + 1, by have := HK.out; have := HLTK.out; omega, by go_num, HR5.out, HB5.out, HO5.out⟩
                    | false =>
                      go_wp2
                      go_region
                      all_goals
                        obtain ⟨wd, hwd⟩ : ∃ wd, wd = (wr.setCell ⟨w.heap.size, j, none⟩ (.bool ((j : Int) != but))).drew := ⟨_, rfl⟩
                        rw [← hwd]
                        have HB5 : Hid (Below w.heap.size w wd) := by show Below _ _ _; rw [hwd]; exact (HB4.out.setCell (p := ⟨w.heap.size, j, none⟩) (Nat.le_refl _) _).drew
                        have HR5 : Hid (RowB w.heap.size w.heap.size (inO but tl (k + 1) bs1) wd) := by show RowB _ _ _ _; rw [HNX3.out, hwd]; rw [Bool.false_or, ne_dec]; exact (HST.out _).below ((Below.refl _ _).drew)
                        have HO5 : Hid (wd.ownsRow wp.heap.size 3 1 (.slice (some ⟨b2, o2, none⟩) tl.length un) tl.length (intVals (ints tl))) := by show World.ownsRow _ _ _ _ _ _ _; rw [hwd]; exact ownsRow_below (HOS.out _) ((Below.refl _ _).drew)
                        clear hwd HOS HST HNX3
                        go_wp2
                        go_roundg (gk - 1)
                        case measure => have := HK.out; have := HLTK.out; omega
                        case rel => exact ⟨k + 1, by have := HK.out; have := HLTK.out; omega, by go_num, HR5.out, HB5.out, HO5.out⟩
                  · obtain rfl : k = tl.length := by have := HK.out; omega
                    rw [← HNX2.out] at HR4
                    clear hrow hbe hou hk hb
                    go_wp2
                    go_roundg (g3 - 1)
                    case measure => have := HI.out; have := HLTI.out; omega
                    case rel => exact ⟨i + 1, by have := HI.out; have := HLTI.out; omega, by go_num, HR4.out, HB4.out⟩
            · obtain rfl : i = l.length := by have := HI.out; omega
              rw [← HNX.out] at HROW3
              clear HI hbe HROW2 HBE2
              go_wp2
              go_roundg (g2 - 1)
              case measure => have := HN.out; have := HLT.out; omega
              case rel => exact ⟨n + 1, by have := HN.out; have := HLT.out; omega, by go_num, HROW3.out, HBE3.out⟩
        · obtain rfl : n = l.length := by have := HN.out; omega
          rw [← HCO.out] at HROW2
          have HAL : Hid (ans.length = l.length) := by show _ = _; rw [HCO.out, passes_len]; exact HSL.out
          clear HN hbe HLOW HL HCO
          go_wp2
          go_ret
          exact ⟨w.heap.size, by rw [HAL.out]; rfl, HROW2.out, HBE2.out⟩
end Go.Proofs.YtkohdofbjoomjaaGreatDoor.FvD
namespace Go.Proofs.YtkohdofbjoomjaaGreatDoor.FvE
open Go.RowKit Go.Lib RwO SetP IntO TyM TyP TyB TyC TyRA ShM ShP ShA ShB ShC ShE ShRA ShH ShI ShJ ShRG ShRH ShRI Aft FwM FwC FwP FwQ FwR FvA FvB FvC FvP RwB FvD

/-- the first k numbers of a kind -/
def upN (q : Nat → Bool) (k : Nat) : List Nat := (List.range k).filter q
theorem upN_len (q : Nat → Bool) (k : Nat) : (upN q k).length ≤ k := by
  have := List.length_filter_le q (List.range k)
  rw [List.length_range] at this
  exact this
theorem upN_yes {q : Nat → Bool} {k : Nat} (h : q k = true) : upN q (k + 1) = upN q k ++ [k] := by
  unfold upN
  rw [List.range_succ, List.filter_append]
  simp [h]
theorem upN_no {q : Nat → Bool} {k : Nat} (h : q k = false) : upN q (k + 1) = upN q k := by
  unfold upN
  rw [List.range_succ, List.filter_append]
  simp [h]

end Go.Proofs.YtkohdofbjoomjaaGreatDoor.FvE
namespace Go.Proofs.YtkohdofbjoomjaaGreatDoor.FvE
open Go.RowKit Go.Lib RwO SetP IntO TyM TyP TyB TyC TyRA ShM ShP ShA ShB ShC ShE ShRA ShH ShI ShJ ShRG ShRH ShRI Aft FwM FwC FwP FwQ FwR FvA FvB FvC FvP RwB FvD

set_option maxRecDepth 100000 in
set_option maxHeartbeats 8000000 in
theorem reached_calls (l : List Bx) (v : Value) (w : World) (hl : BlksAt w v l) (hlow : Low l) (hn0 : 0 < l.length) (hlen : l.length ≤ 1000) :
    Calls Tryz.prog 28 #[v] w (LstR (ints (reachedL l)) w) := by
  have hb0 := alloc_below w (.cells #[.int .i64 0] 3)
  have HC := hid (come_calls l [0] (-1) v _ _ (hl.below blkStays hb0) (ints_lit w (ints [0]) 1 #[.int .i64 0] rfl rfl (by simp [ints])) hlow (fun a ha => by rw [List.mem_singleton.1 ha]; exact hn0) hlen)
  have HCL : Hid ((comeO (succ l) (-1) l.length [0]).length = l.length) := come_len _ _ _ _
  have HRL : Hid (reachedL l = upN (fun i => has (comeO (succ l) (-1) l.length [0]) i) l.length) := rfl
  have HLEN := hid hlen
  have HB0 := hid hb0
  obtain ⟨ao, cap, rfl, hll⟩ := hl.slice
  clear hl hlow hn0 hb0
  generalize comeO (succ l) (-1) l.length [0] = bs at *
  generalize reachedL l = ans at *
  go_enter Tryz.func28, Tryz.ntmps28
  go_wp2_with fail
  refine HC.out.mono ?_
  rintro e w1 ⟨g, rfl, hrow, hb1⟩
  have hbe := HB0.out.trans (hb1.mono HB0.out.size)
  have HROW := hid hrow
  have HBE := hid hbe
  have hll2 : bs.length ≤ 1000 := by rw [HCL.out]; exact hlen
  rw [← HCL.out] at HRL
  clear HC HB0 hb1 hrow hbe HLEN hlen hll
  generalize l.length = nl at *
  go_wp2
  go_loopg [3, 5] bs.length (fun gk u i wr => ∃ k : Nat, k + gk = bs.length ∧ i = .int .i64 k ∧ wr.ownsRow w1.heap.size 3 1 u (upN (fun i => has bs i) k).length (intVals (ints (upN (fun i => has bs i) k))) ∧ Below w1.heap.size w1 wr)
  case atStart => exact ⟨0, by omega, rfl, World.ownsRow_nil _ _ _ _, Below.refl _ _⟩
  case round =>
    obtain ⟨k, hk, rfl, hown, hb⟩ := hrel
    have HK := hid hk
    have HLN := hid (upN_len (fun i => has bs i) k)
    have HOWN := hid hown
    have HB := hid hb
    obtain ⟨ua, un, rfl⟩ := own_slice hown
    by_cases hlt : k < bs.length
    · have HLT := hid hlt
      obtain ⟨b, hbk, _, hy, _⟩ := (HROW.out.below hb).at k hlt
      have hhas := has_at hbk
      have HYES := hid (upN_yes (q := fun i => has bs i) (k := k))
      have HNO := hid (upN_no (q := fun i => has bs i) (k := k))
      have hkl : (k : Int) < (bs.length : Int) := by omega
      clear hk hown hb hbk
      cases b with
      | true =>
        have HA := hid (HYES.out hhas)
        clear HYES HNO hhas
        generalize upN (fun i => has bs i) k = up at *
        have HO3 := hid (HOWN.out.alloc (.cells #[.int .i64 k] 3))
        have HI3 := hid (ints_one (w := wr.alloc (.cells #[.int .i64 k] 3)) (b := wr.heap.size) (n := k) (cell_new _ _ _ _ rfl) (size_new _ _ _ rfl))
        have hsz : w1.heap.size ≤ (wr.alloc (.cells #[.int .i64 k] 3)).heap.size := by have := HB.out.size; simp only [World.size_alloc]; omega
        have hxs : up.length ≤ 100000 := by have := HLN.out; omega
        go_wp2_with (at_builtin; refine wpList_append_ints rfl (.tmp 19) (.tmp 21) rfl w1.heap.size (.slice ua up.length un) rfl up.length (intVals (ints up)) HO3.out hxs (.slice (some ⟨wr.heap.size, 0, none⟩) 1 1) [(k : Int)] rfl HI3.out (by simp) hsz ?_)
        intro v' w' hown' hgr
        have HB4 := hid (own_grown (HB.out.alloc (by have := HB.out.size; omega) _) HO3.out hgr hsz)
        have HNX : Hid (w'.ownsRow w1.heap.size 3 1 v' (up ++ [k]).length (intVals (ints (up ++ [k])))) := by
          show World.ownsRow _ _ _ _ _ _ _
          rw [ints_append, intVals_append, List.length_append]
          exact hown'
        obtain ⟨va, vn, rfl⟩ := own_slice hown'
        clear hown' hgr HI3 HO3 hsz
        go_wp2
        go_roundg (gk - 1)
        case measure => have := HK.out; have := HLT.out; omega
        case rel => exact ⟨k + 1, by have := HK.out; have := HLT.out; omega, by go_num, by rw [HA.out]; have := HNX.out; rw [List.length_append] at this ⊢; exact this, HB4.out⟩
      | false =>
        have HA := hid (HNO.out hhas)
        clear HYES HNO hhas
        go_wp2
        go_roundg (gk - 1)
        case measure => have := HK.out; have := HLT.out; omega
        case rel => exact ⟨k + 1, by have := HK.out; have := HLT.out; omega, by go_num, by rw [HA.out]; exact HOWN.out, HB.out⟩
    · obtain rfl : k = bs.length := by omega
      rw [← HRL.out] at HOWN HLN ⊢
      have HI := hid (intsAt_of_owns (l := ints ans) HOWN.out (by rw [ints_length]; have := HLN.out; omega))
      clear hk hown
      generalize ans.length = m at *
      generalize bs.length = n at *
      go_wp2
      go_ret
      exact ⟨_, rfl, HI.out, HBE.out.trans (HB.out.mono HBE.out.size)⟩
end Go.Proofs.YtkohdofbjoomjaaGreatDoor.FvE
namespace Go.Proofs.YtkohdofbjoomjaaGreatDoor.FdA
open Go.RowKit Go.Lib RwO SetP IntO TyM TyP TyB TyC TyRA ShM ShP ShA ShB ShC ShE ShRA ShH ShI ShJ ShRG ShRH ShRI Aft FwM FwC FwP FwQ FwR FvA FvB FvC FvP RwB FvD FvE FdM FdQ

theorem ints_dec (l : List Nat) (n : Nat) : decide ((n : Int) ∈ ints l) = decide (n ∈ l) := decide_eq_decide.2 ints_mem

set_option maxRecDepth 100000 in
set_option maxHeartbeats 8000000 in
theorem askedD_calls (p : Px) (f b : Int) (v : Value) (w : World) (hp : PrAt w v p) (hs : Small p) (hok : POk p) :
    Calls Tryz.prog 23 #[v, .int .i64 f, .int .i64 b] w (NumR (askR p f b) w) := by
  have hp0 := hp
  obtain ⟨vt, vf, rfl, ht, hf⟩ := hp
  obtain ⟨W, hW⟩ : ∃ W, W = w.alloc (.cells #[vt, vf] 25) := ⟨_, rfl⟩
  have hbW : Below w.heap.size w W := by rw [hW]; exact alloc_below _ _
  have k1 : W.heap[w.heap.size]? = some (.cells #[vt, vf] 25 (0, 0)) := by rw [hW]; exact alloc_new _ _
  have hpW := hp0.below hbW
  have HR := hid (FvB.next_calls p f b _ W hpW hs hok)
  have HFN := hid (fun (k : Nat) (x : Fx) (h1 : Has1 p f k x) => fn_later (hf.below fnStays hbW) h1)
  have HOK := hid hok
  obtain ⟨ta, tc, rfl⟩ := ht.slice
  obtain ⟨fa, fc, rfl, _⟩ := hf.slice
  have l0 := later_cells k1 0 _ rfl; have l1 := later_cells k1 1 _ rfl
  have HBW := hid hbW
  have HW := hid hW
  have h0 := Aft.refl W
  clear ht hf hpW hbW hW k1 hp0 hs hok
  by_cases hz : askB p f b = 0
  rotate_left
  · rw [askR_bad hz]
    have e0 : (askB p f b == 0) = false := by simpa using hz
    clear HFN hz HOK
    generalize nextA p f b = na at *
    generalize askB p f b = fe at *
    generalize p.types.length = n1 at *
    generalize p.funcs.length = n2 at *
    go_enter Tryz.func23, Tryz.ntmps23
    go_wp2_with fail
    rw [← HW.out]
    refine HR.out.mono ?_
    rintro e w1 ⟨u, rfl, _, hb1⟩
    have h1 := h0.go hb1
    clear HR hb1
    go_wp2
    go_ret
    exact ⟨rfl, h1.out HBW.out⟩
  obtain ⟨hz1, b0, b1⟩ := ask_zero hz
  obtain ⟨hlow, hl0, hl16⟩ := low_fn HOK.out hz1
  obtain ⟨k, x, h1⟩ := has1 hz1
  obtain ⟨j, hj⟩ : ∃ j : Nat, b = j := ⟨b.toNat, by omega⟩
  subst hj
  have HIN := hid (fun h => askR_in (p := p) (f := f) (b := (j : Int)) hz h)
  have HOUT := hid (fun h => askR_out (p := p) (f := f) (b := (j : Int)) hz h)
  rw [fn_blocks h1] at hlow hl0 hl16
  rw [fn_blocks h1, Int.toNat_natCast] at HIN HOUT
  obtain ⟨fb, foff, fcap, ao, bc, he, d0, d1, hbl⟩ := HFN.out k x h1
  cases he
  have HC := hid (fun wx (h : Aft W wx) => reached_calls x.blocks _ wx (hbl.below blkStays h.below) hlow hl0 (by omega))
  rw [hz] at HR
  have hke := h1.eq
  have hkl := h1.lt
  clear HFN hz h1 hz1 b0 b1 hbl hlow hl0 hl16 HOK
  subst hke
  generalize askR p (k : Int) (j : Int) = ans at *
  generalize nextA p (k : Int) (j : Int) = na at *
  obtain ⟨sg, bl⟩ := x
  simp only at *
  generalize reachedL bl = R at *
  generalize p.types.length = n1 at *
  generalize p.funcs.length = n2 at *
  generalize bl.length = n3 at *
  go_enter Tryz.func23, Tryz.ntmps23
  go_wp2_with fail
  rw [← HW.out]
  refine HR.out.mono ?_
  rintro e w1 ⟨u, rfl, _, hb1⟩
  have h1 := h0.go hb1
  have HC1 := hid (HC.out w1 h1)
  clear HR hb1 HC
  go_wp2_with fail
  refine HC1.out.mono ?_
  rintro e w2 ⟨u2, rfl, hu, hb2⟩
  have h2 := h1.go hb2
  have HQ := hid (ints_dec R j ▸ in_calls u2 (ints R) j w2 hu)
  obtain ⟨ua, uc, rfl, _⟩ := ints_slice hu
  clear HC1 hb2 hu
  by_cases hm : j ∈ R
  · rw [decide_eq_true hm] at HQ
    have HA := hid (HIN.out hm)
    clear hm HIN HOUT
    go_wp2_with fail
    refine HQ.out.mono ?_
    rintro e w3 ⟨rfl, hb3⟩
    have HE := hid ((h2.go hb3).out HBW.out)
    clear hb3 HQ
    go_wp2
    go_ret
    exact ⟨by rw [HA.out]; rfl, HE.out⟩
  · rw [decide_eq_false hm] at HQ
    have HA := hid (HOUT.out hm)
    clear hm HIN HOUT
    go_wp2_with fail
    refine HQ.out.mono ?_
    rintro e w3 ⟨rfl, hb3⟩
    have HE := hid ((h2.go hb3).out HBW.out)
    clear hb3 HQ
    go_wp2
    go_ret
    exact ⟨by rw [HA.out]; rfl, HE.out⟩

set_option maxRecDepth 100000 in
set_option maxHeartbeats 8000000 in
theorem ruled_calls (l : List Bx) (a b : Nat) (v : Value) (w : World) (hl : BlksAt w v l) (hlow : Low l) (ha : a < l.length) (hb : b < l.length) (hlen : l.length ≤ 1000) :
    Calls Tryz.prog 24 #[v, .int .i64 a, .int .i64 b] w (BoolR (ruledL l a b) w) := by
  have hn0 : 0 < l.length := by omega
  have HC := hid (fun (but : Int) wx (h : Aft w wx) => come_calls l [0] but v _ (wx.alloc (.cells #[.int .i64 0] 3)) (hl.below blkStays (h.alloc (.cells #[.int .i64 0] 3)).below) (ints_lit wx (ints [0]) 1 #[.int .i64 0] rfl rfl (by simp [ints])) hlow (fun x hx => by rw [List.mem_singleton.1 hx]; exact hn0) hlen)
  have HL1 : Hid ((comeO (succ l) (-1) l.length [0]).length = l.length) := come_len _ _ _ _
  have HL2 : Hid ((comeO (succ l) (a : Int) l.length [0]).length = l.length) := come_len _ _ _ _
  have HD : Hid (ruledL l a b = (decide (a = b) || (has (comeO (succ l) (-1) l.length [0]) a && !has (comeO (succ l) a l.length [0]) b))) := rfl
  obtain ⟨ao, cap, rfl, hll⟩ := hl.slice
  have h0 := Aft.refl w
  have HA := hid ha
  have HB := hid hb
  have HC1 := hid (HC.out (-1))
  have HC2 := hid (HC.out (a : Int))
  clear hl hlow ha hb hlen HC hn0
  generalize comeO (succ l) (-1) l.length [0] = B1 at *
  generalize comeO (succ l) (a : Int) l.length [0] = B2 at *
  generalize ruledL l a b = ans at *
  by_cases hab : a = b
  · have hd : ((a : Int) == (b : Int)) = true := by simp; omega
    rw [decide_eq_true hab, Bool.true_or] at HD
    clear HC1 HC2 hab
    go_enter Tryz.func24, Tryz.ntmps24
    go_wp2
    go_ret
    exact ⟨by rw [HD.out]; rfl, Below.refl _ _⟩
  have hd : ((a : Int) == (b : Int)) = false := beq_false_of_ne (by omega)
  rw [decide_eq_false hab, Bool.false_or] at HD
  clear hab
  have HCC := hid (HC1.out w h0)
  clear HC1
  go_enter Tryz.func24, Tryz.ntmps24
  go_wp2_with fail
  refine HCC.out.mono ?_
  rintro e w1 ⟨g1, rfl, hr1, hb1⟩
  have h1 : Aft w w1 := (h0.alloc _).go hb1
  obtain ⟨x, hx, _, hy, _⟩ := hr1.at a (by rw [HL1.out]; exact HA.out)
  have hhx := has_at hx
  have hal : a < B1.length := by rw [HL1.out]; exact HA.out
  rw [hhx] at HD
  have HE1 := hid h1.below
  clear HCC hb1 hr1 hx hhx
  cases x with
  | false =>
    rw [Bool.false_and] at HD
    clear HC2
    go_wp2
    go_ret
    exact ⟨by rw [HD.out]; rfl, HE1.out⟩
  | true =>
    rw [Bool.true_and] at HD
    have HCD := hid (HC2.out w1 h1)
    clear HC2
    go_wp2_with fail
    refine HCD.out.mono ?_
    rintro e w2 ⟨g2, rfl, hr2, hb2⟩
    have h2 : Aft w w2 := (h1.alloc _).go hb2
    obtain ⟨y, hy, _, hyc, _⟩ := hr2.at b (by rw [HL2.out]; exact HB.out)
    have hhy := has_at hy
    have hbl : b < B2.length := by rw [HL2.out]; exact HB.out
    rw [hhy] at HD
    have HE2 := hid h2.below
    clear HCD hb2 hr2 hy hhy
    cases y with
    | true =>
      go_wp2
      go_ret
      exact ⟨by rw [HD.out]; rfl, HE2.out⟩
    | false =>
      go_wp2
      go_ret
      exact ⟨by rw [HD.out]; rfl, HE2.out⟩
end Go.Proofs.YtkohdofbjoomjaaGreatDoor.FdA
namespace Go.Proofs.YtkohdofbjoomjaaGreatDoor.FdB
open Go.RowKit Go.Lib RwO SetP IntO TyM TyP TyB TyC ShM ShP ShA ShB ShC ShE ShH ShI ShJ Aft FwM FwC FwP FwQ FwR FvA FvB FvC FvP RwB FvD FvE FdM FdQ FdA

/-- one of the blocks speaks for a to be the ruler next to b -/
def oneB (l : List Bx) (b a c : Nat) : Bool := decide (c = b) || (!ruledL l c b || ruledL l c a)
def baseB (l : List Bx) (b a : Nat) : Bool := decide (a ≠ b) && ruledL l a b
def partB (l : List Bx) (b a c : Nat) : Bool := baseB l b a && (List.range c).all (oneB l b a)
theorem partB_zero (l : List Bx) (b a : Nat) : partB l b a 0 = baseB l b a := by simp [partB]
theorem partB_succ (l : List Bx) (b a c : Nat) : partB l b a (c + 1) = (partB l b a c && oneB l b a c) := by
  unfold partB
  rw [List.range_succ, List.all_append]
  simp [Bool.and_assoc]
theorem partB_all (l : List Bx) (b a : Nat) : partB l b a l.length = nextB l b a := by
  unfold partB baseB nextB
  rw [Bool.and_assoc]
  rfl
theorem partB_le {l : List Bx} {b a c d : Nat} (h : partB l b a c = false) (hcd : c ≤ d) : partB l b a d = false := by
  induction hcd with
  | refl => exact h
  | step _ ih => rw [partB_succ, ih]; rfl
/-- none of the first k is it -/
def Not (l : List Bx) (b k : Nat) : Prop := ∀ a, a < k → nextB l b a = false
theorem ruler_yes {l : List Bx} {b k : Nat} (h : Not l b k) (hk : k < l.length) (hn : nextB l b k = true) : rulerL l b = k := by
  unfold rulerL
  have : (List.range l.length).find? (nextB l b) = some k := by
    rw [List.find?_range_eq_some]
    refine ⟨hn, List.mem_range.2 hk, fun j hj => ?_⟩
    rw [h j hj]; rfl
  rw [this]
theorem ruler_no {l : List Bx} {b : Nat} (h : Not l b l.length) : rulerL l b = -1 := by
  unfold rulerL
  have : (List.range l.length).find? (nextB l b) = none := by
    rw [List.find?_eq_none]
    intro a ha
    rw [h a (List.mem_range.1 ha)]
    simp
  rw [this]
theorem not_succ {l : List Bx} {b k : Nat} (h : Not l b k) (hn : nextB l b k = false) : Not l b (k + 1) := by
  intro a ha
  by_cases e : a = k
  · exact e ▸ hn
  · exact h a (by omega)

set_option maxRecDepth 100000 in
set_option maxHeartbeats 8000000 in
theorem ruler_calls (l : List Bx) (b : Nat) (v : Value) (w : World) (hl : BlksAt w v l) (hlow : Low l) (hb : b < l.length) (hlen : l.length ≤ 1000) :
    Calls Tryz.prog 26 #[v, .int .i64 b] w (NumR (rulerL l b) w) := by
  have HR := hid (fun (a c : Nat) (ha : a < l.length) (hc : c < l.length) wx (h : Aft w wx) => ruled_calls l a c v wx (hl.below blkStays h.below) hlow ha hc hlen)
  have HRY := hid (fun k (h : Not l b k) (hk : k < l.length) (hn : nextB l b k = true) => ruler_yes h hk hn)
  have HRN := hid (fun (h : Not l b l.length) => ruler_no h)
  have HNS := hid (fun k (h : Not l b k) (hn : nextB l b k = false) => not_succ h hn)
  obtain ⟨ao, cap, rfl, hll⟩ := hl.slice
  have HB := hid hb
  have HLEN := hid hlen
  have h0 := Aft.refl w
  clear hl hlow hb
  generalize rulerL l b = ans at *
  go_enter Tryz.func26, Tryz.ntmps26
  go_wp2
  go_loopg [5] l.length (fun gk iv wr => ∃ k : Nat, k + gk = l.length ∧ iv = .int .i64 k ∧ Not l b k ∧ Aft w wr)
  case atStart => exact ⟨0, by omega, rfl, (fun a ha => by omega), h0⟩
  case round =>
    obtain ⟨k, hk, rfl, hnot, hbe⟩ := hrel
    have HK := hid hk
    have HNOT := hid hnot
    have HBE := hid hbe
    clear hnot
    by_cases hlt : k < l.length
    · have HLT := hid hlt
      have hkl : (k : Int) < (l.length : Int) := by omega
      have hkb : k ≤ 9223372036854775806 := by omega
      obtain ⟨g1, hg1⟩ : ∃ g1 : Nat, g1 = gk := ⟨gk, rfl⟩
      subst hg1
      have HPA : Hid (partB l b k l.length = nextB l b k) := partB_all l b k
      have HPL := hid (fun c (h : partB l b k c = false) (hc : c ≤ l.length) => partB_le h hc)
      have HPS := hid (fun c => partB_succ l b k c)
      have HP0 := hid (partB_zero l b k)
      clear hk
      by_cases hkb2 : k = b
      · have hd : ((k : Int) != (b : Int)) = false := by simp; omega
        have HBS : Hid (partB l b k 0 = false) := by show _ = _; rw [HP0.out]; unfold baseB; simp [hkb2]
        have HNB : Hid (nextB l b k = false) := by show _ = _; rw [← HPA.out]; exact HPL.out 0 HBS.out (Nat.zero_le _)
        clear hkb2
        go_wp2_with fail
        go_loopg [6, 7] 0 (fun gk nb cv wr => nb = .bool false ∧ cv = .int .i64 0 ∧ Aft w wr)
        case atStart => exact ⟨rfl, rfl, HBE.out⟩
        case round =>
          obtain ⟨rfl, rfl, hbx⟩ := hrel
          have HBX := hid hbx
          have hl0 : (0 : Int) < (l.length : Int) := by omega
          have hl1 : 0 < l.length := by omega
          clear hbx
          go_wp2
          go_roundg (g1 - 1)
          case measure => have := HK.out; have := HLT.out; omega
          case rel => exact ⟨k + 1, by have := HK.out; have := HLT.out; omega, by go_num, HNS.out k HNOT.out HNB.out, HBX.out⟩
      · have hd : ((k : Int) != (b : Int)) = true := by simp; omega
        have HCR := hid (HR.out k b hlt HB.out wr hbe)
        have HBS : Hid (baseB l b k = ruledL l k b) := by show _ = _; unfold baseB; simp [hkb2]
        rw [← HBS.out, ← HP0.out] at HCR
        clear hkb2 HBS
        go_wp2_with fail
        refine HCR.out.mono ?_
        rintro e w1 ⟨rfl, hb1⟩
        have HB1 := hid (HBE.out.go hb1)
        clear HCR hb1 hbe
        go_wp2_with fail
        go_loopg [6, 7] l.length (fun gk nb cv wr => ∃ c : Nat, c + gk = l.length ∧ cv = .int .i64 c ∧ nb = .bool (partB l b k c) ∧ Aft w wr)
        case atStart => exact ⟨0, by omega, rfl, rfl, HB1.out⟩
        case round =>
          obtain ⟨c, hc, rfl, rfl, hbx⟩ := hrel
          have HC := hid hc
          have HBX := hid hbx
          by_cases hcl : c < l.length
          · have HCL := hid hcl
            have hcl1 : (c : Int) < (l.length : Int) := by omega
            have hcb : c ≤ 9223372036854775806 := by omega
            have HSC := hid (HPS.out c)
            cases hpc : partB l b k c with
            | false =>
              have HNB : Hid (nextB l b k = false) := by show _ = _; rw [← HPA.out]; exact HPL.out c hpc (Nat.le_of_lt hcl)
              clear hpc hbx hc
              go_wp2
              go_roundg (g1 - 1)
              case measure => have := HK.out; have := HLT.out; omega
              case rel => exact ⟨k + 1, by have := HK.out; have := HLT.out; omega, by go_num, HNS.out k HNOT.out HNB.out, HBX.out⟩
            | true =>
              rw [hpc, Bool.true_and] at HSC
              have HOB : Hid (oneB l b k c = (decide (c = b) || (!ruledL l c b || ruledL l c k))) := rfl
              by_cases hcb2 : c = b
              · have hd2 : ((c : Int) == (b : Int)) = true := by simp; omega
                rw [decide_eq_true hcb2, Bool.true_or] at HOB
                clear hcb2 hpc hbx hc
                go_wp2
                go_roundg (gk - 1)
                case measure => have := HC.out; have := HCL.out; omega
                case rel => exact ⟨c + 1, by have := HC.out; have := HCL.out; omega, by go_num, by rw [HSC.out, HOB.out], HBX.out⟩
              · have hd2 : ((c : Int) == (b : Int)) = false := beq_false_of_ne (by omega)
                rw [decide_eq_false hcb2, Bool.false_or] at HOB
                have HC1 := hid (HR.out c b hcl HB.out wr hbx)
                have HC2 := hid (HR.out c k hcl hlt)
                clear hcb2 hpc hc
                cases hx : ruledL l c b with
                | false =>
                  rw [hx] at HC1 HOB
                  rw [Bool.not_false, Bool.true_or] at HOB
                  clear hx HC2
                  go_wp2_with fail
                  refine HC1.out.mono ?_
                  rintro e w2 ⟨rfl, hb2⟩
                  have HB2 := hid (HBX.out.go hb2)
                  clear HC1 hb2 hbx
                  go_wp2
                  go_roundg (gk - 1)
                  case measure => have := HC.out; have := HCL.out; omega
                  case rel => exact ⟨c + 1, by have := HC.out; have := HCL.out; omega, by go_num, by rw [HSC.out, HOB.out], HB2.out⟩
                | true =>
                  rw [hx] at HC1 HOB
                  rw [Bool.not_true, Bool.false_or] at HOB
                  clear hx
                  go_wp2_with fail
                  refine HC1.out.mono ?_
                  rintro e w2 ⟨rfl, hb2⟩
                  have h2 := HBX.out.go hb2
                  have HC3 := hid (HC2.out w2 h2)
                  clear HC1 hb2 hbx HC2
                  go_wp2_with fail
                  refine HC3.out.mono ?_
                  rintro e w3 ⟨rfl, hb3⟩
                  have HB3 := hid (h2.go hb3)
                  clear HC3 hb3 h2
                  go_wp2
                  go_roundg (gk - 1)
                  case measure => have := HC.out; have := HCL.out; omega
                  case rel => exact ⟨c + 1, by have := HC.out; have := HCL.out; omega, by go_num, by rw [HSC.out, HOB.out], HB3.out⟩
          · obtain rfl : c = l.length := by omega
            rw [HPA.out]
            have HRYK := hid (HRY.out k HNOT.out hlt)
            have HNSK := hid (HNS.out k HNOT.out)
            clear hc hbx
            cases hn : nextB l b k with
            | true =>
              have HA := hid (HRYK.out hn)
              have HE := hid HBX.out.below
              clear hn
              go_wp2
              go_ret
              exact ⟨by rw [HA.out]; rfl, HE.out⟩
            | false =>
              have HNK := hid (HNSK.out hn)
              clear hn
              go_wp2
              go_roundg (g1 - 1)
              case measure => have := HK.out; have := HLT.out; omega
              case rel => exact ⟨k + 1, by have := HK.out; have := HLT.out; omega, by go_num, HNK.out, HBX.out⟩
    · obtain rfl : k = l.length := by omega
      have HA := hid (HRN.out HNOT.out)
      have HE := hid hbe.below
      clear hk
      go_wp2
      go_ret
      exact ⟨by rw [HA.out]; rfl, HE.out⟩
end Go.Proofs.YtkohdofbjoomjaaGreatDoor.FdB
namespace Go.Proofs.YtkohdofbjoomjaaGreatDoor.FdC
open Go.RowKit Go.Lib RwO SetP IntO TyM TyP TyB TyC TyRA ShM ShP ShA ShB ShC ShE ShRA ShH ShI ShJ ShK ShL ShRG ShRH ShRI Aft FwM FwC FwP FwQ FwR FvA FvB FvC FvP RwB FvD FvE FdM FdQ FdA FdB 

set_option maxRecDepth 100000 in
set_option maxHeartbeats 8000000 in
theorem rules_calls (p : Px) (f a b : Int) (v : Value) (w : World) (hp : PrAt w v p) (hs : Small p) (hok : POk p) :
    Calls Tryz.prog 8 #[v, .int .i64 f, .int .i64 a, .int .i64 b] w (BoolE (rulesA p f a b) (rulesE p f a b) w) := by
  have hp0 := hp
  obtain ⟨vt, vf, rfl, ht, hf⟩ := hp
  obtain ⟨W, hW⟩ : ∃ W, W = w.alloc (.cells #[vt, vf] 25) := ⟨_, rfl⟩
  have hbW : Below w.heap.size w W := by rw [hW]; exact alloc_below _ _
  have k1 : W.heap[w.heap.size]? = some (.cells #[vt, vf] 25 (0, 0)) := by rw [hW]; exact alloc_new _ _
  have hpW := hp0.below hbW
  have HPW := hid hpW
  have HS := hid hs
  have HFN := hid (fun (k : Nat) (x : Fx) (h1 : Has1 p f k x) => fn_later (hf.below fnStays hbW) h1)
  have HOK := hid hok
  obtain ⟨ta, tc, rfl⟩ := ht.slice
  obtain ⟨fa, fc, rfl, _⟩ := hf.slice
  have l0 := later_cells k1 0 _ rfl; have l1 := later_cells k1 1 _ rfl
  have HBW := hid hbW
  have HW := hid hW
  have h0 := Aft.refl W
  clear ht hf hpW hbW hW k1 hp0 hs hok
  have HR1 := hid (FvB.next_calls p f a _ W HPW.out HS.out HOK.out)
  have HR2 := hid (fun wx (h : Aft W wx) => askedD_calls p f b _ wx (HPW.out.below h.below) HS.out HOK.out)
  by_cases hz : askB p f a = 0
  rotate_left
  · have HE : Hid (rulesE p f a b = askB p f a) := by show _ = _; unfold rulesE; rw [if_pos hz]
    have HA : Hid (rulesA p f a b = false) := by show _ = _; unfold rulesA; rw [if_neg (by rw [HE.out]; exact hz)]
    have e0 : (askB p f a != 0) = true := by simpa using hz
    have e1 : (askB p f a == 0) = false := by simpa using hz
    rw [HE.out, HA.out]
    clear HFN HOK HPW HS HR2 hz HE HA
    generalize nextA p f a = na at *
    generalize askB p f a = fe at *
    generalize p.types.length = n1 at *
    generalize p.funcs.length = n2 at *
    go_enter Tryz.func8, Tryz.ntmps8
    go_wp2_with fail
    rw [← HW.out]
    refine HR1.out.mono ?_
    rintro e w1 ⟨u, rfl, _, hb1⟩
    have h1 := h0.go hb1
    clear HR1 hb1
    go_wp2
    go_ret2
    exact ⟨rfl, h1.out HBW.out⟩
  have HE : Hid (rulesE p f a b = askR p f b) := by show _ = _; unfold rulesE; rw [if_neg (fun e => e hz)]
  rw [hz] at HR1
  by_cases hy : askR p f b = 0
  rotate_left
  · have HA : Hid (rulesA p f a b = false) := by show _ = _; unfold rulesA; rw [if_neg (by rw [HE.out]; exact hy)]
    have e0 : (askR p f b != 0) = true := by simpa using hy
    rw [HE.out, HA.out]
    clear HFN HOK HPW HS hz hy HE HA
    generalize nextA p f a = na at *
    generalize askR p f b = fe at *
    generalize p.types.length = n1 at *
    generalize p.funcs.length = n2 at *
    go_enter Tryz.func8, Tryz.ntmps8
    go_wp2_with fail
    rw [← HW.out]
    refine HR1.out.mono ?_
    rintro e w1 ⟨u, rfl, _, hb1⟩
    have h1 := h0.go hb1
    have HR3 := hid (HR2.out w1 h1)
    clear HR1 hb1 HR2
    go_wp2_with fail
    refine HR3.out.mono ?_
    rintro e w2 ⟨rfl, hb2⟩
    have h2 := h1.go hb2
    clear HR3 hb2
    go_wp2
    go_ret2
    exact ⟨rfl, h2.out HBW.out⟩
  have HA : Hid (rulesA p f a b = ruledL (blsP p f) a.toNat b.toNat) := by show _ = _; unfold rulesA; rw [if_pos (by rw [HE.out]; exact hy)]
  obtain ⟨hz1, a0, a1⟩ := ask_zero hz
  obtain ⟨_, b0, b1⟩ := ask_zero (askR_zero hy).1
  obtain ⟨hlow, hl0, hl16⟩ := low_fn HOK.out hz1
  rw [HE.out, HA.out, hy]
  rw [hy] at HR2
  clear HE HA
  obtain ⟨i, hi⟩ : ∃ i : Nat, a = i := ⟨a.toNat, by omega⟩
  obtain ⟨j, hj⟩ : ∃ j : Nat, b = j := ⟨b.toNat, by omega⟩
  subst hi
  subst hj
  rw [Int.toNat_natCast, Int.toNat_natCast]
  obtain ⟨k, x, h1⟩ := has1 hz1
  rw [fn_blocks h1] at a1 b1 hlow hl0 hl16 ⊢
  obtain ⟨fb, foff, fcap, ao, bc, he, d0, d1, hbl⟩ := HFN.out k x h1
  cases he
  have HC := hid (fun wx (h : Aft W wx) => ruled_calls x.blocks i j _ wx (hbl.below blkStays h.below) hlow (by omega) (by omega) (by omega))
  have hke := h1.eq
  have hkl := h1.lt
  clear HFN HOK HPW HS hz h1 hz1 hy a0 a1 b0 b1 hbl hlow hl0 hl16
  subst hke
  generalize nextA p (k : Int) (i : Int) = na at *
  obtain ⟨sg, bl⟩ := x
  simp only at *
  generalize ruledL bl i j = tl at *
  generalize p.types.length = n1 at *
  generalize p.funcs.length = n2 at *
  generalize bl.length = n3 at *
  go_enter Tryz.func8, Tryz.ntmps8
  go_wp2_with fail
  rw [← HW.out]
  refine HR1.out.mono ?_
  rintro e w1 ⟨u, rfl, _, hb1⟩
  have h1 := h0.go hb1
  have HR3 := hid (HR2.out w1 h1)
  clear HR1 hb1 HR2
  go_wp2_with fail
  refine HR3.out.mono ?_
  rintro e w2 ⟨rfl, hb2⟩
  have h2 := h1.go hb2
  have HC1 := hid (HC.out w2 h2)
  clear HR3 hb2 HC
  go_wp2_with fail
  refine HC1.out.mono ?_
  rintro e w3 ⟨rfl, hb3⟩
  have h3 := h2.go hb3
  clear HC1 hb3
  go_wp2
  go_ret2
  exact ⟨rfl, h3.out HBW.out⟩

set_option maxRecDepth 100000 in
set_option maxHeartbeats 8000000 in
theorem nextD_calls (p : Px) (f b : Int) (v : Value) (w : World) (hp : PrAt w v p) (hs : Small p) (hok : POk p) :
    Calls Tryz.prog 10 #[v, .int .i64 f, .int .i64 b] w (TwoR (nextD p f b) (askR p f b) w) := by
  have hp0 := hp
  obtain ⟨vt, vf, rfl, ht, hf⟩ := hp
  obtain ⟨W, hW⟩ : ∃ W, W = w.alloc (.cells #[vt, vf] 25) := ⟨_, rfl⟩
  have hbW : Below w.heap.size w W := by rw [hW]; exact alloc_below _ _
  have k1 : W.heap[w.heap.size]? = some (.cells #[vt, vf] 25 (0, 0)) := by rw [hW]; exact alloc_new _ _
  have hpW := hp0.below hbW
  have HPW := hid hpW
  have HS := hid hs
  have HFN := hid (fun (k : Nat) (x : Fx) (h1 : Has1 p f k x) => fn_later (hf.below fnStays hbW) h1)
  have HOK := hid hok
  obtain ⟨ta, tc, rfl⟩ := ht.slice
  obtain ⟨fa, fc, rfl, _⟩ := hf.slice
  have l0 := later_cells k1 0 _ rfl; have l1 := later_cells k1 1 _ rfl
  have HBW := hid hbW
  have HW := hid hW
  have h0 := Aft.refl W
  clear ht hf hpW hbW hW k1 hp0 hs hok
  have HR := hid (askedD_calls p f b _ W HPW.out HS.out HOK.out)
  by_cases hy : askR p f b = 0
  rotate_left
  · have HA : Hid (nextD p f b = 0) := by show _ = _; unfold nextD; rw [if_neg hy]
    have e0 : (askR p f b != 0) = true := by simpa using hy
    rw [HA.out]
    clear HFN HOK HPW HS hy HA
    generalize askR p f b = fe at *
    generalize p.types.length = n1 at *
    generalize p.funcs.length = n2 at *
    go_enter Tryz.func10, Tryz.ntmps10
    go_wp2_with fail
    rw [← HW.out]
    refine HR.out.mono ?_
    rintro e w1 ⟨rfl, hb1⟩
    have h1 := h0.go hb1
    clear HR hb1
    go_wp2
    go_ret2
    exact ⟨rfl, h1.out HBW.out⟩
  have HA : Hid (nextD p f b = rulerL (blsP p f) b.toNat) := by show _ = _; unfold nextD; rw [if_pos hy]
  obtain ⟨hz1, b0, b1⟩ := ask_zero (askR_zero hy).1
  obtain ⟨hlow, hl0, hl16⟩ := low_fn HOK.out hz1
  rw [HA.out, hy]
  rw [hy] at HR
  clear HA
  obtain ⟨j, hj⟩ : ∃ j : Nat, b = j := ⟨b.toNat, by omega⟩
  subst hj
  rw [Int.toNat_natCast]
  obtain ⟨k, x, h1⟩ := has1 hz1
  rw [fn_blocks h1] at b1 hlow hl0 hl16 ⊢
  obtain ⟨fb, foff, fcap, ao, bc, he, d0, d1, hbl⟩ := HFN.out k x h1
  cases he
  have HC := hid (fun wx (h : Aft W wx) => ruler_calls x.blocks j _ wx (hbl.below blkStays h.below) hlow (by omega) (by omega))
  have hke := h1.eq
  have hkl := h1.lt
  clear HFN HOK HPW HS h1 hz1 hy b0 b1 hbl hlow hl0 hl16
  subst hke
  obtain ⟨sg, bl⟩ := x
  simp only at *
  generalize rulerL bl j = tl at *
  generalize p.types.length = n1 at *
  generalize p.funcs.length = n2 at *
  generalize bl.length = n3 at *
  go_enter Tryz.func10, Tryz.ntmps10
  go_wp2_with fail
  rw [← HW.out]
  refine HR.out.mono ?_
  rintro e w1 ⟨rfl, hb1⟩
  have h1 := h0.go hb1
  have HC1 := hid (HC.out w1 h1)
  clear HR hb1 HC
  go_wp2_with fail
  refine HC1.out.mono ?_
  rintro e w2 ⟨rfl, hb2⟩
  have h2 := h1.go hb2
  clear HC1 hb2
  go_wp2
  go_ret2
  exact ⟨rfl, h2.out HBW.out⟩
end Go.Proofs.YtkohdofbjoomjaaGreatDoor.FdC
namespace Go.Proofs.YtkohdofbjoomjaaGreatDoor.FdC
open Go.RowKit Go.Lib RwO SetP IntO TyM TyP TyB TyC TyRA ShM ShP ShA ShB ShC ShE ShRA ShH ShI ShJ ShK ShL ShRG ShRH ShRI Aft FwM FwC FwP FwQ FwR FvA FvB FvC FvP RwB FvD FvE FdM FdQ FdA FdB 

/-- of the first k blocks, the ruler next to each -/
def allN (l : List Bx) (k : Nat) : List Int := (List.range k).map fun b => if b ∈ reachedL l then rulerL l b else -1
theorem allN_succ (l : List Bx) (k : Nat) : allN l (k + 1) = allN l k ++ [if k ∈ reachedL l then rulerL l k else -1] := by
  unfold allN
  rw [List.range_succ, List.map_append]
  rfl
theorem allN_len (l : List Bx) (k : Nat) : (allN l k).length = k := by simp [allN]

set_option maxRecDepth 100000 in
set_option maxHeartbeats 8000000 in
theorem all_calls (p : Px) (f : Int) (v : Value) (w : World) (hp : PrAt w v p) (hs : Small p) (hok : POk p) :
    Calls Tryz.prog 12 #[v, .int .i64 f] w (LstE (allD p f) (findP p f) w) := by
  have hp0 := hp
  obtain ⟨vt, vf, rfl, ht, hf⟩ := hp
  obtain ⟨W, hW⟩ : ∃ W, W = w.alloc (.cells #[vt, vf] 25) := ⟨_, rfl⟩
  have hbW : Below w.heap.size w W := by rw [hW]; exact alloc_below _ _
  have k1 : W.heap[w.heap.size]? = some (.cells #[vt, vf] 25 (0, 0)) := by rw [hW]; exact alloc_new _ _
  have hpW := hp0.below hbW
  have HPW := hid hpW
  have HS := hid hs
  have HFN := hid (fun (k : Nat) (x : Fx) (h1 : Has1 p f k x) => fn_later (hf.below fnStays hbW) h1)
  have HOK := hid hok
  obtain ⟨ta, tc, rfl⟩ := ht.slice
  obtain ⟨fa, fc, rfl, _⟩ := hf.slice
  have l0 := later_cells k1 0 _ rfl; have l1 := later_cells k1 1 _ rfl
  have HBW := hid hbW
  have HW := hid hW
  have h0 := Aft.refl W
  clear ht hf hpW hbW hW k1 hp0 hs hok
  have HR := hid (askedD_calls p f 0 _ W HPW.out HS.out HOK.out)
  by_cases hz : findP p f = 0
  rotate_left
  · have HA : Hid (allD p f = []) := by show _ = _; unfold allD; rw [if_neg hz]
    have hy : askR p f 0 = findP p f := (askR_bad (by rw [ask_first]; exact hz)).trans ask_first
    have e0 : (findP p f != 0) = true := by simpa using hz
    rw [HA.out]
    rw [hy] at HR
    clear HFN HOK HPW HS hy HA hz
    generalize findP p f = fe at *
    generalize p.types.length = n1 at *
    generalize p.funcs.length = n2 at *
    go_enter Tryz.func12, Tryz.ntmps12
    go_wp2_with fail
    rw [← HW.out]
    refine HR.out.mono ?_
    rintro e w1 ⟨rfl, hb1⟩
    have h1 := h0.go hb1
    clear HR hb1
    go_wp2
    go_ret2
    exact ⟨_, rfl, ints_none _, h1.out HBW.out⟩
  have HA : Hid (allD p f = allL (blsP p f)) := by show _ = _; unfold allD; rw [if_pos hz]
  have hy : askR p f 0 = 0 := reach_zero HOK.out hz
  obtain ⟨hlow, hl0, hl16⟩ := low_fn HOK.out hz
  rw [HA.out, hz]
  rw [hy] at HR
  clear HA
  obtain ⟨k, x, h1⟩ := has1 hz
  rw [fn_blocks h1] at hlow hl0 hl16 ⊢
  obtain ⟨fb, foff, fcap, ao, bc, he, d0, d1, hbl⟩ := HFN.out k x h1
  cases he
  have HC := hid (fun j (hj : j < x.blocks.length) wx (h : Aft W wx) => ruler_calls x.blocks j _ wx (hbl.below blkStays h.below) hlow hj (by omega))
  have HRE := hid (fun wx (h : Aft W wx) => reached_calls x.blocks _ wx (hbl.below blkStays h.below) hlow hl0 (by omega))
  have HLN := hid hl16
  have hke := h1.eq
  have hkl := h1.lt
  clear HFN HOK HPW HS h1 hz hy hbl hlow hl0 hl16
  subst hke
  obtain ⟨sg, bl⟩ := x
  simp only at *
  have HAL : Hid (allL bl = allN bl bl.length) := rfl
  have HNS := hid (allN_succ bl)
  have HNL := hid (allN_len bl)
  have HN0 : Hid (allN bl 0 = []) := rfl
  generalize reachedL bl = R at *
  generalize allL bl = ans at *
  generalize p.types.length = n1 at *
  generalize p.funcs.length = n2 at *
  go_enter Tryz.func12, Tryz.ntmps12
  go_wp2_with fail
  rw [← HW.out]
  refine HR.out.mono ?_
  rintro e w1 ⟨rfl, hb1⟩
  have h1 := h0.go hb1
  clear HR hb1
  go_wp2_with fail
  go_loopg [8, 9] bl.length (fun gk u iv wr => ∃ i : Nat, i + gk = bl.length ∧ iv = .int .i64 i ∧ wr.ownsRow w1.heap.size 3 1 u i (intVals (allN bl i)) ∧ Below w1.heap.size w1 wr)
  case atStart => exact ⟨0, by omega, rfl, World.ownsRow_nil _ _ _ _, Below.refl _ _⟩
  case round =>
    obtain ⟨i, hi, rfl, hown, hbe⟩ := hrel
    have HI := hid hi
    have HOWN := hid hown
    have HBE := hid hbe
    obtain ⟨ua, un, rfl⟩ := own_slice hown
    by_cases hlt : i < bl.length
    · have HLT := hid hlt
      have hA : Aft W wr := h1.go hbe
      have HRE1 := hid (HRE.out wr hA)
      have HCI := hid (fun wx (h : Aft W wx) => HC.out i hlt wx h)
      have hil : (i : Int) < (bl.length : Int) := by omega
      have HNX := hid (HNS.out i)
      have hib : i ≤ 9223372036854775806 := by have := HLN.out; omega
      have h0x := Aft.refl wr
      clear hi hown hbe
      go_wp2_with fail
      refine HRE1.out.mono ?_
      rintro e w2 ⟨u2, rfl, hu2, hb2⟩
      have h2 := h0x.go hb2
      have HQ := hid (ints_dec R i ▸ in_calls u2 (ints R) i w2 hu2)
      obtain ⟨va, vc, rfl, _⟩ := ints_slice hu2
      clear HRE1 hb2 hu2
      by_cases hm : i ∈ R
      · rw [decide_eq_true hm] at HQ
        rw [if_pos hm] at HNX
        clear hm
        go_wp2_with fail
        refine HQ.out.mono ?_
        rintro e w3 ⟨rfl, hb3⟩
        have h3 := h2.go hb3
        have HCX := hid (HCI.out w3 (hA.trans h3))
        clear HQ hb3 HCI
        go_wp2_with fail
        refine HCX.out.mono ?_
        rintro e w4 ⟨rfl, hb4⟩
        have h4 := h3.go hb4
        have HO4 := hid ((ownsRow_below HOWN.out h4.below).alloc (.cells #[.int .i64 (rulerL bl i)] 3))
        have hB4 := HBE.out.trans (h4.below.mono HBE.out.size)
        have HB4 := hid hB4
        clear HCX hb4
        generalize rulerL bl i = q at *
        have HI4 := hid (ints_one (w := w4.alloc (.cells #[.int .i64 q] 3)) (b := w4.heap.size) (n := q) (cell_new _ _ _ _ rfl) (size_new _ _ _ rfl))
        have hsz : w1.heap.size ≤ (w4.alloc (.cells #[.int .i64 q] 3)).heap.size := by have := HB4.out.size; simp only [World.size_alloc]; omega
        go_wp2_with (at_builtin; refine wpList_append_ints rfl (.tmp 36) (.tmp 38) rfl w1.heap.size (.slice ua i un) rfl i (intVals (allN bl i)) HO4.out (by have := HLN.out; have := HLT.out; omega) (.slice (some ⟨w4.heap.size, 0, none⟩) 1 1) [q] rfl HI4.out (by simp) hsz ?_)
        intro v5 w5 hown5 hgr5
        have HB5 := hid (own_grown (HB4.out.alloc (by have := HB4.out.size; omega) _) HO4.out hgr5 hsz)
        have HO5 : Hid (w5.ownsRow w1.heap.size 3 1 v5 (i + 1) (intVals (allN bl (i + 1)))) := by
          show World.ownsRow _ _ _ _ _ _ _
          rw [HNX.out, intVals_append]
          exact hown5
        obtain ⟨xa, xn, rfl⟩ := own_slice hown5
        clear hown5 hgr5 HI4 HO4 hsz HB4 hB4
        go_wp2
        go_roundg (gk - 1)
        case measure => have := HI.out; have := HLT.out; omega
        case rel => exact ⟨i + 1, by have := HI.out; have := HLT.out; omega, by go_num, HO5.out, HB5.out⟩
      · rw [decide_eq_false hm] at HQ
        rw [if_neg hm] at HNX
        clear hm HCI
        go_wp2_with fail
        refine HQ.out.mono ?_
        rintro e w4 ⟨rfl, hb3⟩
        have h4 := h2.go hb3
        obtain ⟨q, hq⟩ : ∃ q : Int, q = -1 := ⟨_, rfl⟩
        have HO4 := hid ((ownsRow_below HOWN.out h4.below).alloc (.cells #[.int .i64 (-1)] 3))
        have hB4 := HBE.out.trans (h4.below.mono HBE.out.size)
        have HB4 := hid hB4
        clear HQ hb3
        clear hq q
        have HI4 := hid (ints_one (w := w4.alloc (.cells #[.int .i64 (-1)] 3)) (b := w4.heap.size) (n := -1) (cell_new _ _ _ _ rfl) (size_new _ _ _ rfl))
        have hsz : w1.heap.size ≤ (w4.alloc (.cells #[.int .i64 (-1)] 3)).heap.size := by have := HB4.out.size; simp only [World.size_alloc]; omega
        go_wp2_with (at_builtin; refine wpList_append_ints rfl (.tmp 36) (.tmp 38) rfl w1.heap.size (.slice ua i un) rfl i (intVals (allN bl i)) HO4.out (by have := HLN.out; have := HLT.out; omega) (.slice (some ⟨w4.heap.size, 0, none⟩) 1 1) [-1] rfl HI4.out (by simp) hsz ?_)
        intro v5 w5 hown5 hgr5
        have HB5 := hid (own_grown (HB4.out.alloc (by have := HB4.out.size; omega) _) HO4.out hgr5 hsz)
        have HO5 : Hid (w5.ownsRow w1.heap.size 3 1 v5 (i + 1) (intVals (allN bl (i + 1)))) := by
          show World.ownsRow _ _ _ _ _ _ _
          rw [HNX.out, intVals_append]
          exact hown5
        obtain ⟨xa, xn, rfl⟩ := own_slice hown5
        clear hown5 hgr5 HI4 HO4 hsz HB4 hB4
        go_wp2
        go_roundg (gk - 1)
        case measure => have := HI.out; have := HLT.out; omega
        case rel => exact ⟨i + 1, by have := HI.out; have := HLT.out; omega, by go_num, HO5.out, HB5.out⟩
    · obtain rfl : i = bl.length := by omega
      rw [← HAL.out] at HOWN
      have HL : Hid (ans.length = bl.length) := by show _ = _; rw [HAL.out, HNL.out]
      have HI2 := hid (intsAt_of_owns HOWN.out (by rw [HL.out]; have := HLN.out; omega))
      have HE := hid ((h1.go hbe).out HBW.out)
      clear hi hown hbe
      generalize bl.length = m at *
      go_wp2
      go_ret2
      exact ⟨_, rfl, HI2.out, HE.out⟩
end Go.Proofs.YtkohdofbjoomjaaGreatDoor.FdC
namespace Go.Proofs.YtkohdofbjoomjaaGreatDoor.ShRH
open Go.RowKit Go.Lib RwO SetP IntO TyM TyP TyB TyC TyRA ShM ShP ShA ShB ShC ShE ShRA ShH ShI ShJ ShK Aft

/-- not there yet -/
def Ahead (par m : Nat) (r : Int) : Prop := r < par ∨ ((par + m : Nat) : Int) ≤ r
def whereB (par : Nat) (l : List Bx) (r : Int) : Int := if r < par then -1 else (((locate l (r - par).toNat).1 : Nat) : Int)
def whereI (par : Nat) (l : List Bx) (r : Int) : Int := if r < par then r else (((locate l (r - par).toNat).2 : Nat) : Int)
theorem where_at {par : Nat} {l : List Bx} {j i : Nat} (hj : j < l.length) (hi : i < l[j].ins.length) : whereB par l ((par + (manyB (l.take j) + i) : Nat) : Int) = j ∧ whereI par l ((par + (manyB (l.take j) + i) : Nat) : Int) = i := by
  have h := locate_of l (manyB (l.take j) + i) j i hj rfl hi
  have ht : (((par + (manyB (l.take j) + i) : Nat) : Int) - (par : Int)).toNat = manyB (l.take j) + i := by omega
  unfold whereB whereI
  rw [if_neg (by omega), if_neg (by omega), ht, h]
  exact ⟨rfl, rfl⟩

set_option maxRecDepth 100000 in
set_option maxHeartbeats 8000000 in
theorem where_calls (p : Px) (k : Nat) (x : Fx) (r : Int) (v : Value) (w : World) (hp : PrAt w v p) (h1 : Has1 p k k x) (hle : parOf p.types x.sig + manyB x.blocks ≤ 1000000) (hr : r < ((parOf p.types x.sig + manyB x.blocks : Nat) : Int)) :
    Calls Tryz.prog 54 #[v, .int .i64 k, .int .i64 r] w (TwoR (whereB (parOf p.types x.sig) x.blocks r) (whereI (parOf p.types x.sig) x.blocks r) w) := by
  have hp0 := hp
  obtain ⟨vt, vf, rfl, ht, hf⟩ := hp
  obtain ⟨W, hW⟩ : ∃ W, W = w.alloc (.cells #[vt, vf] 25) := ⟨_, rfl⟩
  have hbW : Below w.heap.size w W := by rw [hW]; exact alloc_below _ _
  have k1 : W.heap[w.heap.size]? = some (.cells #[vt, vf] 25 (0, 0)) := by rw [hW]; exact alloc_new _ _
  obtain ⟨fb, foff, fcap, vb, rfl, hfb, c0, c1, hbl⟩ := fn_at hf h1
  have hblW := hbl.below blkStays hbW
  have hpW := hp0.below hbW
  have HN := hid (fun (j i : Nat) (hj : j ≤ x.blocks.length) (hi : i ≤ 1000000) wx (hx : Aft W wx) => number_calls p k k x j i _ wx (hpW.below hx.below) h1 hj hle hi)
  have d1 := later ((hbW.cell (p := ⟨fb, foff + k * 2 + 1, none⟩) hfb).trans c1)
  obtain ⟨ta, tc, rfl⟩ := ht.slice
  obtain ⟨ba, bc, rfl, _⟩ := hbl.slice
  have l0 := later_cells k1 0 _ rfl; have l1 := later_cells k1 1 _ rfl
  have hkl : (k : Int) < p.funcs.length := by have := h1.lt; omega
  have hk0 : (0 : Int) ≤ k := by omega
  have HBW := hid hbW
  have HW := hid hW
  have HBL := hid hblW
  have HR := hid hr
  have HML := hid (fun j (h : j < x.blocks.length) => manyB_mem h)
  have HMN : Hid (manyB x.blocks ≤ 1000000) := by show _ ≤ _; omega
  have HWH := hid (fun (j i : Nat) (hj : j < x.blocks.length) (hi : i < x.blocks[j].ins.length) => where_at (par := parOf p.types x.sig) hj hi)
  have HWP : Hid (r < (parOf p.types x.sig : Nat) → whereB (parOf p.types x.sig) x.blocks r = -1 ∧ whereI (parOf p.types x.sig) x.blocks r = r) := fun h => by unfold whereB whereI; rw [if_pos h, if_pos h]; exact ⟨rfl, rfl⟩
  have h0 := Aft.refl W
  clear ht hf hpW hblW hbW hW k1 hbl h1 c0 c1 hle hr hp0
  generalize parOf p.types x.sig = par at *
  obtain ⟨sg, bl⟩ := x
  simp only at *
  generalize p.types.length = n1 at *
  generalize p.funcs.length = n2 at *
  go_enter Tryz.func54, Tryz.ntmps54
  go_wp2_with fail
  rw [← HW.out]
  go_loopg [8, 9] bl.length (fun gk i _ wr => ∃ j : Nat, j + gk = bl.length ∧ i = .int .i64 j ∧ Ahead par (manyB (bl.take j)) r ∧ Aft W wr)
  case atStart => exact ⟨0, by omega, rfl, by unfold Ahead; simp [manyB_nil]; omega, h0⟩
  case round =>
    obtain ⟨j, hj, rfl, hah, hwr⟩ := hrel
    clear h0
    have HK := hid hj
    have HAH := hid hah
    clear hah
    by_cases hlt : j < bl.length
    rotate_left
    · obtain rfl : j = bl.length := by omega
      have hpr : r < par := by
        have := HAH.out
        rw [List.take_length] at this
        have := HR.out
        unfold Ahead at *
        omega
      obtain ⟨e1, e2⟩ := HWP.out hpr
      have HE1 := hid e1
      have HE2 := hid e2
      clear e1 e2 HAH HN HWH HML HBL hj hlt
      generalize bl.length = n4 at *
      go_wp2
      go_ret2
      exact ⟨by rw [HE1.out, HE2.out]; rfl, hwr.out HBW.out⟩
    obtain ⟨b, bo, hbo, hbs, vi, b0, b1, b2, b3, b4, hins⟩ := HBL.out.at j hlt
    subst hbo
    have j0 := later b0
    obtain ⟨ia, ic, rfl, hil⟩ := hins.slice
    have HMT := hid (manyB_take hlt)
    have HWJ := hid (fun i (hi : i < bl[j].ins.length) => HWH.out j i hlt hi)
    have hilm := HML.out j hlt
    have HIL : Hid (bl[j].ins.length ≤ 1000000) := by show _ ≤ _; have := HMN.out; omega
    have HNJ := hid (fun i (hi : i ≤ 1000000) wx hx => HN.out j i (by omega) hi wx hx)
    clear b0 b1 b2 b3 b4 hbs hins hilm hj
    generalize bl[j].ins.length = il at *
    generalize manyB (bl.take j) = mj at *
    have hlj : (j : Int) < bl.length := by omega
    have hj0 : (0 : Int) ≤ j := by omega
    obtain ⟨wo, hwo⟩ : ∃ wo : World, wo = wr := ⟨wr, rfl⟩
    subst hwo
    obtain ⟨go, hgo⟩ : ∃ go : Nat, go = gk := ⟨gk, rfl⟩
    subst hgo
    have HRO := hid hwr
    go_wp2_with fail
    clear hwr
    go_loopg [9] il (fun gq q wq => ∃ i : Nat, i + gq = il ∧ q = .int .i64 i ∧ Ahead par (mj + i) r ∧ Aft W wq)
    case atStart => exact ⟨0, by omega, rfl, HAH.out, HRO.out⟩
    case round =>
      obtain ⟨i, hi, rfl, hah, hwr⟩ := hrel
      have HQ := hid hi
      have HAI := hid hah
      clear hah
      by_cases hli : i < il
      rotate_left
      · obtain rfl : i = il := by omega
        have HNX : Hid (Ahead par (manyB (bl.take (j + 1))) r) := by show Ahead _ _ _; rw [HMT.out]; exact HAI.out
        clear hi hli HAI
        go_wp2
        go_roundg (go - 1)
        case measure => have := HK.out; omega
        case rel => exact ⟨j + 1, by have := HK.out; omega, by go_num, HNX.out, hwr⟩
      have HC := hid (HNJ.out i (by have := HIL.out; omega) _ hwr)
      have HWI := hid (HWJ.out i hli)
      have hlq : (i : Int) < il := by omega
      by_cases he : ((par + (mj + i) : Nat) : Int) = r
      · subst he
        obtain ⟨e1, e2⟩ := HWI.out
        have HE1 := hid e1
        have HE2 := hid e2
        clear e1 e2 HWI HWJ HWP HWH HNJ HN HAI HAH HR hli hi HML HBL hlt HMT HK
        generalize whereB par bl ((par + (mj + i) : Nat) : Int) = ub at *
        generalize whereI par bl ((par + (mj + i) : Nat) : Int) = ui at *
        generalize bl.length = n4 at *
        generalize ((par + (mj + i) : Nat) : Int) = r at *
        go_wp2_with fail
        refine HC.out.mono ?_
        rintro e w5 ⟨rfl, hb5⟩
        have h5 := hwr.go hb5
        clear hb5 HC
        go_wp2
        go_ret2
        exact ⟨by rw [HE1.out, HE2.out]; rfl, h5.out HBW.out⟩
      · have HNX : Hid (Ahead par (mj + (i + 1)) r) := by
          have := HAI.out
          show Ahead _ _ _
          unfold Ahead at *
          omega
        have hne : (((par + (mj + i) : Nat) : Int) == r) = false := by simpa using he
        clear HWI HWJ HWP HWH HNJ HN HAI hli hi he
        generalize ((par + (mj + i) : Nat) : Int) = nn at *
        go_wp2_with fail
        refine HC.out.mono ?_
        rintro e w5 ⟨rfl, hb5⟩
        have h5 := hwr.go hb5
        clear hb5 HC
        go_wp2
        go_roundg (gk - 1)
        case measure => have := HQ.out; omega
        case rel => exact ⟨i + 1, by have := HQ.out; omega, by go_num, HNX.out, h5⟩
end Go.Proofs.YtkohdofbjoomjaaGreatDoor.ShRH

namespace Go.Proofs.YtkohdofbjoomjaaGreatDoor.ShRI
open Go.RowKit Go.Lib RwO SetP IntO TyM TyP TyB TyC TyRA ShM ShP ShA ShB ShC ShE ShRA ShH ShI ShJ ShK ShRG ShRH Aft

set_option maxRecDepth 100000 in
set_option maxHeartbeats 8000000 in
theorem placeR_calls (p : Px) (f r : Int) (v : Value) (w : World) (hp : PrAt w v p) (hs : Small p) (hok : POk p) :
    Calls Tryz.prog 35 #[v, .int .i64 f, .int .i64 r] w (ThreeR (placeB p f r) (placeI p f r) (placeE p f r) w) := by
  have hp0 := hp
  obtain ⟨vt, vf, rfl, ht, hf⟩ := hp
  obtain ⟨W, hW⟩ : ∃ W, W = w.alloc (.cells #[vt, vf] 25) := ⟨_, rfl⟩
  have hbW : Below w.heap.size w W := by rw [hW]; exact alloc_below _ _
  have k1 : W.heap[w.heap.size]? = some (.cells #[vt, vf] 25 (0, 0)) := by rw [hW]; exact alloc_new _ _
  have hpW := hp0.below hbW
  have HA := hid (asked_calls p f _ W hpW hs hok)
  have HCT := hid (fun (k : Nat) (x : Fx) (h : Has1 p f k x) (hle : parOf p.types x.sig + manyB x.blocks ≤ 1000000) wx (hx : Aft W wx) => count_calls p f k x _ wx (hpW.below hx.below) h hle)
  have HWT := hid (fun (k : Nat) (x : Fx) (h : Has1 p k k x) (hle : parOf p.types x.sig + manyB x.blocks ≤ 1000000) (hr : r < ((parOf p.types x.sig + manyB x.blocks : Nat) : Int)) wx (hx : Aft W wx) => where_calls p k x r _ wx (hpW.below hx.below) h hle hr)
  obtain ⟨ta, tc, rfl⟩ := ht.slice
  obtain ⟨fa, fc, rfl, _⟩ := hf.slice
  have l0 := later_cells k1 0 _ rfl; have l1 := later_cells k1 1 _ rfl
  have HBW := hid hbW
  have HW := hid hW
  have h0 := Aft.refl W
  have HS := hid hs
  have HPE : Hid (placeE p f r = if findP p f ≠ 0 then findP p f else if 0 ≤ r ∧ r < cntP p f then 0 else 2) := rfl
  have HPB : Hid (placeB p f r = if placeE p f r ≠ 0 then (0 : Int) else if r < parOf p.types (fnP p f).sig then (-1 : Int) else (((locate (fnP p f).blocks (r - parOf p.types (fnP p f).sig).toNat).1 : Nat) : Int)) := rfl
  have HPI : Hid (placeI p f r = if placeE p f r ≠ 0 then (0 : Int) else if r < parOf p.types (fnP p f).sig then r else (((locate (fnP p f).blocks (r - parOf p.types (fnP p f).sig).toNat).2 : Nat) : Int)) := rfl
  generalize placeB p f r = pb at *
  generalize placeI p f r = pi at *
  generalize placeE p f r = pe at *
  clear ht hf hpW hbW hW k1 hp0 hs hok
  by_cases hz : findP p f = 0
  rotate_left
  · rw [if_pos hz] at HPE
    rw [HPE.out, if_pos hz] at HPB HPI
    rw [HPE.out, HPB.out, HPI.out]
    have e0 : (findP p f != 0) = true := by simpa using hz
    have e1 : (findP p f == 0) = false := by simpa using hz
    clear HCT HWT HS hz HPE HPB HPI
    generalize findP p f = fe at *
    generalize p.types.length = n1 at *
    generalize p.funcs.length = n2 at *
    go_enter Tryz.func35, Tryz.ntmps35
    go_wp2_with fail
    rw [← HW.out]
    refine HA.out.mono ?_
    rintro e w1 ⟨rfl, hb1⟩
    have h1 := h0.go hb1
    clear HA hb1
    go_wp2
    go_returns
    exact ⟨rfl, h1.out HBW.out⟩
  rw [if_neg (fun h => h hz)] at HPE
  rw [hz] at HA
  by_cases r0 : r < 0
  · rw [if_neg (by omega)] at HPE
    rw [HPE.out, if_pos (by decide)] at HPB HPI
    rw [HPE.out, HPB.out, HPI.out]
    clear HCT HWT HS hz HPE HPB HPI
    generalize p.types.length = n1 at *
    generalize p.funcs.length = n2 at *
    go_enter Tryz.func35, Tryz.ntmps35
    go_wp2_with fail
    rw [← HW.out]
    refine HA.out.mono ?_
    rintro e w1 ⟨rfl, hb1⟩
    have h1 := h0.go hb1
    have HE := hid (h1.out HBW.out)
    clear HA hb1
    go_wp2 <;> first | (exfalso; omega) | (go_returns; exact ⟨rfl, HE.out⟩)
  obtain ⟨k, x, h1⟩ := has1 hz
  have hle : parOf p.types x.sig + manyB x.blocks ≤ 1000000 := by
    have := par_le HS.out.parts h1.sig0 h1.sig1
    have := h1.many
    omega
  have HC := hid (HCT.out k x h1 hle)
  have hke := h1.eq
  subst hke
  have HWH := hid (fun hr => HWT.out k x h1 hle hr)
  rw [cnt_at h1] at HPE
  rw [fn_eq h1] at HPB HPI
  clear HCT HWT HS hz hle h1
  by_cases r1 : ((parOf p.types x.sig + manyB x.blocks : Nat) : Int) ≤ r
  · rw [if_neg (by omega)] at HPE
    rw [HPE.out, if_pos (by decide)] at HPB HPI
    rw [HPE.out, HPB.out, HPI.out]
    clear HWH HPE HPB HPI
    generalize parOf p.types x.sig + manyB x.blocks = cnt at *
    generalize p.types.length = n1 at *
    generalize p.funcs.length = n2 at *
    go_enter Tryz.func35, Tryz.ntmps35
    go_wp2_with fail
    all_goals (try (exfalso; omega))
    rw [← HW.out]
    refine HA.out.mono ?_
    rintro e w1 ⟨rfl, hb1⟩
    have h1 := h0.go hb1
    have HC1 := hid (HC.out w1 h1)
    clear HA hb1 HC
    go_wp2_with fail
    all_goals (try (exfalso; omega))
    refine HC1.out.mono ?_
    rintro e w2 ⟨rfl, hb2⟩
    have h2 := h1.go hb2
    have HE := hid (h2.out HBW.out)
    clear HC1 hb2
    go_wp2 <;> first | (exfalso; omega) | (go_returns; exact ⟨rfl, HE.out⟩)
  have hr : r < ((parOf p.types x.sig + manyB x.blocks : Nat) : Int) := by omega
  rw [if_pos (by omega)] at HPE
  rw [HPE.out, if_neg (fun h => h rfl)] at HPB HPI
  have HWC := hid (HWH.out hr)
  have eb : whereB (parOf p.types x.sig) x.blocks r = pb := HPB.out.symm
  have ei : whereI (parOf p.types x.sig) x.blocks r = pi := HPI.out.symm
  rw [eb, ei] at HWC
  rw [HPE.out]
  clear HWH HPE HPB HPI eb ei
  generalize parOf p.types x.sig + manyB x.blocks = cnt at *
  generalize p.types.length = n1 at *
  generalize p.funcs.length = n2 at *
  go_enter Tryz.func35, Tryz.ntmps35
  go_wp2_with fail
  all_goals (try (exfalso; omega))
  rw [← HW.out]
  refine HA.out.mono ?_
  rintro e w1 ⟨rfl, hb1⟩
  have h1 := h0.go hb1
  have HC1 := hid (HC.out w1 h1)
  clear HA hb1 HC
  go_wp2_with fail
  all_goals (try (exfalso; omega))
  refine HC1.out.mono ?_
  rintro e w2 ⟨rfl, hb2⟩
  have h2 := h1.go hb2
  have HC2 := hid (HWC.out w2 h2)
  clear HC1 hb2 HWC
  go_wp2_with fail
  all_goals (try (exfalso; omega))
  refine HC2.out.mono ?_
  rintro e w3 ⟨rfl, hb3⟩
  have h3 := h2.go hb3
  have HE := hid (h3.out HBW.out)
  clear HC2 hb3
  go_wp2 <;> first | (exfalso; omega) | (go_returns; exact ⟨rfl, HE.out⟩)
end Go.Proofs.YtkohdofbjoomjaaGreatDoor.ShRI
namespace Go.Proofs.YtkohdofbjoomjaaGreatDoor.FdE
open Go.RowKit Go.Lib RwO SetP IntO TyM TyP TyB TyC TyRA ShM ShP ShA ShB ShC ShE ShRA ShH ShI ShJ ShK ShL ShRG ShRH ShRI Aft FwM FwC FwP FwQ FwR FvA FvB FvC FvP RwB FvD FvE FdM FdQ FdA FdB ShBP 

set_option maxRecDepth 100000 in
set_option maxHeartbeats 8000000 in
theorem isSet_calls (p : Px) (f r block pl : Int) (v : Value) (w : World) (hp : PrAt w v p) (hs : Small p) (hok : POk p) (hz : findP p f = 0) (hr : placeE p f r = 0) (hbk : 0 ≤ block ∧ block < (blsP p f).length) :
    Calls Tryz.prog 36 #[v, .int .i64 f, .int .i64 r, .int .i64 block, .int .i64 pl] w (BoolR (isSetL (parOf p.types (fnP p f).sig) (blsP p f) r block pl) w) := by
  have hp0 := hp
  obtain ⟨vt, vf, rfl, ht, hf⟩ := hp
  obtain ⟨W, hW⟩ : ∃ W, W = w.alloc (.cells #[vt, vf] 25) := ⟨_, rfl⟩
  have hbW : Below w.heap.size w W := by rw [hW]; exact alloc_below _ _
  have k1 : W.heap[w.heap.size]? = some (.cells #[vt, vf] 25 (0, 0)) := by rw [hW]; exact alloc_new _ _
  have hpW := hp0.below hbW
  have HPW := hid hpW
  have HS := hid hs
  have HFN := hid (fun (k : Nat) (x : Fx) (h1 : Has1 p f k x) => fn_later (hf.below fnStays hbW) h1)
  have HOK := hid hok
  obtain ⟨ta, tc, rfl⟩ := ht.slice
  obtain ⟨fa, fc, rfl, _⟩ := hf.slice
  have l0 := later_cells k1 0 _ rfl; have l1 := later_cells k1 1 _ rfl
  have HBW := hid hbW
  have HW := hid hW
  have h0 := Aft.refl W
  clear ht hf hpW hbW hW k1 hp0 hs hok
  obtain ⟨hlow, hl0, hl16⟩ := low_fn HOK.out hz
  obtain ⟨k, x, h1⟩ := has1 hz
  have hke := h1.eq
  have hle : parOf p.types x.sig + manyB x.blocks ≤ 1000000 := by
    have := par_le HS.out.parts h1.sig0 h1.sig1
    have := h1.many
    omega
  subst hke
  obtain ⟨r0, r1⟩ : 0 ≤ r ∧ r < ((parOf p.types x.sig + manyB x.blocks : Nat) : Int) := by
    unfold placeE at hr
    rw [if_neg (fun e => e hz), cnt_at h1] at hr
    by_cases hh : 0 ≤ r ∧ r < ((parOf p.types x.sig + manyB x.blocks : Nat) : Int)
    · exact hh
    · rw [if_neg hh] at hr; cases hr
  have HWH := hid (where_calls p k x r _ W HPW.out h1 hle r1)
  rw [fn_blocks h1] at hlow hl0 hl16 hbk ⊢
  rw [fn_eq h1]
  obtain ⟨fb, foff, fcap, ao, bc, he, d0, d1, hbl⟩ := HFN.out k x h1
  cases he
  obtain ⟨j, hj⟩ : ∃ j : Nat, block = j := ⟨block.toNat, by omega⟩
  subst hj
  have HD : Hid (isSetL (parOf p.types x.sig) x.blocks r (j : Int) pl = if r < parOf p.types x.sig then true else if (((locate x.blocks (r - parOf p.types x.sig).toNat).1 : Nat) : Int) = j then decide ((((locate x.blocks (r - parOf p.types x.sig).toNat).2 : Nat) : Int) < pl) else ruledL x.blocks (locate x.blocks (r - parOf p.types x.sig).toNat).1 j) := rfl
  have hkl := h1.lt
  by_cases hp : r < parOf p.types x.sig
  · have HB1 : whereB (parOf p.types x.sig) x.blocks r = -1 := by unfold whereB; rw [if_pos hp]
    have HI1 : whereI (parOf p.types x.sig) x.blocks r = r := by unfold whereI; rw [if_pos hp]
    rw [HB1, HI1] at HWH
    rw [if_pos hp] at HD
    rw [HD.out]
    clear HFN HOK HPW HS h1 hz hr hbk r0 r1 hbl hlow hl0 hl16 hle hp HD HB1 HI1
    generalize x.blocks.length = n3 at *
    generalize p.types.length = n1 at *
    generalize p.funcs.length = n2 at *
    go_enter Tryz.func36, Tryz.ntmps36
    go_wp2_with fail
    rw [← HW.out]
    refine HWH.out.mono ?_
    rintro e w1 ⟨rfl, hb1⟩
    have h1 := h0.go hb1
    clear HWH hb1
    go_wp2
    go_ret
    exact ⟨rfl, h1.out HBW.out⟩
  obtain ⟨c, q, hc, hloc, hm, hq⟩ := locate_spec x.blocks (r - parOf p.types x.sig).toNat (by omega)
  have HB1 : whereB (parOf p.types x.sig) x.blocks r = c := by unfold whereB; rw [if_neg hp, hloc]
  have HI1 : whereI (parOf p.types x.sig) x.blocks r = q := by unfold whereI; rw [if_neg hp, hloc]
  rw [HB1, HI1] at HWH
  rw [if_neg hp, hloc] at HD
  simp only at HD
  have HC := hid (fun wx (h : Aft W wx) => ruled_calls x.blocks c j _ wx (hbl.below blkStays h.below) hlow hc (by omega) (by omega))
  generalize isSetL (parOf p.types x.sig) x.blocks r (j : Int) pl = ans at *
  clear HFN HOK HPW HS h1 hz hr hbk r0 r1 hbl hlow hl0 hl16 hle hp HB1 HI1 hloc hm hq hc
  obtain ⟨sg, bl⟩ := x
  simp only at *
  by_cases hcj : (c : Int) = (j : Int)
  · rw [if_pos hcj] at HD
    have hd : ((c : Int) == (j : Int)) = true := by simpa using hcj
    rw [HD.out]
    clear HD HC hcj
    generalize bl.length = n3 at *
    generalize p.types.length = n1 at *
    generalize p.funcs.length = n2 at *
    go_enter Tryz.func36, Tryz.ntmps36
    go_wp2_with fail
    rw [← HW.out]
    refine HWH.out.mono ?_
    rintro e w1 ⟨rfl, hb1⟩
    have h1 := h0.go hb1
    clear HWH hb1
    go_wp2
    go_ret
    exact ⟨rfl, h1.out HBW.out⟩
  · rw [if_neg hcj] at HD
    have hd : ((c : Int) == (j : Int)) = false := beq_false_of_ne hcj
    rw [HD.out]
    clear HD hcj
    generalize ruledL bl c j = tl at *
    generalize bl.length = n3 at *
    generalize p.types.length = n1 at *
    generalize p.funcs.length = n2 at *
    go_enter Tryz.func36, Tryz.ntmps36
    go_wp2_with fail
    rw [← HW.out]
    refine HWH.out.mono ?_
    rintro e w1 ⟨rfl, hb1⟩
    have h1 := h0.go hb1
    have HC1 := hid (HC.out w1 h1)
    clear HWH hb1 HC
    go_wp2_with fail
    refine HC1.out.mono ?_
    rintro e w2 ⟨rfl, hb2⟩
    have h2 := h1.go hb2
    clear HC1 hb2
    go_wp2
    go_ret
    exact ⟨rfl, h2.out HBW.out⟩
end Go.Proofs.YtkohdofbjoomjaaGreatDoor.FdE
