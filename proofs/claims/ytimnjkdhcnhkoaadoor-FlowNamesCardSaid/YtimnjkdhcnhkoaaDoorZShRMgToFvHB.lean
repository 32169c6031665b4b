/- Walks over the reference's asked, Count, Regs (fescueref06). A walk over fescueref09.asked. A walk over fescueref09.Next. The first of those ahead, in plain. A walk over fescueref09.Ahead. A walk over fescueref09.Preds. Walk over fescueref09.Come. The first numbers of a kind, in plain. A walk over fescueref09.Rounds. A walk over fescueref09.Round. -/
import Derived.Test.YtimnjkdhcnhkoaaDoorZShRMa
import Derived.Test.YtimnjkdhcnhkoaaDoorZShEToShER
import Derived.Test.YtimnjkdhcnhkoaaDoorZRwHToShTB
import Derived.Test.YtimnjkdhcnhkoaaDoorZShIToFvA
import Derived.Test.YtimnjkdhcnhkoaaDoorZFvPToFkW
import Derived.Test.YtimnjkdhcnhkoaaDoorZFwRToTyRT
import Derived.BigRegion
namespace Go.Proofs.YtimnjkdhcnhkoaaDoor.ShRG
open Go.RowKit Go.Lib RwO SetP IntO TyM TyP TyB TyC TyRA ShM ShP ShA ShB ShC ShE ShRA ShH ShI Aft

set_option maxRecDepth 100000 in
set_option maxHeartbeats 8000000 in
theorem asked_calls (p : Px) (f : Int) (v : Value) (w : World) (hp : PrAt w v p) (hs : Small p) (hok : POk p) :
    Calls Tryd.prog 63 #[v, .int .i64 f] w (NumR (findP p f) w) := by
  have hp0 := hp
  obtain ⟨vt, vf, rfl, ht, hf⟩ := hp
  obtain ⟨W, hW⟩ : ∃ W, W = w.alloc (.cells #[vt, vf] 25) := ⟨_, rfl⟩
  have hbW : Below w.heap.size w W := by rw [hW]; exact alloc_below _ _
  have k1 : W.heap[w.heap.size]? = some (.cells #[vt, vf] 25 (0, 0)) := by rw [hW]; exact alloc_new _ _
  have HCK := hid (checkP_calls p _ W (hp0.below hbW) hs hok)
  have HD : Hid (findP p f = if chkP p ≠ 0 then chkP p else if 0 ≤ f ∧ f < p.funcs.length then 0 else 2) := rfl
  obtain ⟨ta, tc, rfl⟩ := ht.slice
  obtain ⟨fa, fc, rfl, hfl⟩ := hf.slice
  have l0 := later_cells k1 0 _ rfl; have l1 := later_cells k1 1 _ rfl
  generalize findP p f = ans at *
  generalize chkP p = ck at *
  have HBW := hid hbW
  have HW := hid hW
  have h0 := Aft.refl W
  clear ht hf hbW hW hs hok k1 hp0
  generalize p.types.length = n1 at *
  generalize p.funcs.length = n2 at *
  by_cases hc : ck = 0
  rotate_left
  · rw [if_pos hc] at HD
    have e0 : (ck == 0) = false := by simpa using hc
    go_enter Tryd.func63, Tryd.ntmps63
    go_wp2_with fail
    rw [← HW.out]
    refine HCK.out.mono ?_
    rintro e w1 ⟨rfl, hb1⟩
    have h1 := h0.go hb1
    clear HCK hb1 hc
    go_wp2
    go_ret
    exact ⟨by rw [HD.out]; rfl, h1.out HBW.out⟩
  rw [if_neg (fun h => h hc)] at HD
  subst hc
  go_enter Tryd.func63, Tryd.ntmps63
  go_wp2_with fail
  rw [← HW.out]
  refine HCK.out.mono ?_
  rintro e w1 ⟨rfl, hb1⟩
  have h1 := h0.go hb1
  have HE := hid (h1.out HBW.out)
  clear HCK hb1
  by_cases f0 : f < 0
  · rw [if_neg (by omega)] at HD
    go_wp2 <;> first | (exfalso; omega) | (go_ret; exact ⟨by rw [HD.out]; rfl, HE.out⟩)
  · by_cases f1 : (n2 : Int) ≤ f
    · rw [if_neg (by omega)] at HD
      go_wp2 <;> first | (exfalso; omega) | (go_ret; exact ⟨by rw [HD.out]; rfl, HE.out⟩)
    · rw [if_pos (by omega)] at HD
      go_wp2 <;> first | (exfalso; omega) | (go_ret; exact ⟨by rw [HD.out]; rfl, HE.out⟩)
end Go.Proofs.YtimnjkdhcnhkoaaDoor.ShRG

namespace Go.Proofs.YtimnjkdhcnhkoaaDoor.ShRH
open Go.RowKit Go.Lib RwO SetP IntO TyM TyP TyB TyC TyRA ShM ShP ShA ShB ShC ShE ShRA ShH ShI ShJ Aft

set_option maxRecDepth 100000 in
set_option maxHeartbeats 8000000 in
theorem count_calls (p : Px) (f : Int) (k : Nat) (x : Fx) (v : Value) (w : World) (hp : PrAt w v p) (h1 : Has1 p f k x) (hle : parOf p.types x.sig + manyB x.blocks ≤ 1000000) :
    Calls Tryd.prog 64 #[v, .int .i64 f] w (NumR ((parOf p.types x.sig + manyB x.blocks : Nat) : Int) w) := by
  obtain ⟨vt, vf, rfl, ht, hf⟩ := hp
  obtain ⟨W, hW⟩ : ∃ W, W = w.alloc (.cells #[vt, vf] 25) := ⟨_, rfl⟩
  have hbW : Below w.heap.size w W := by rw [hW]; exact alloc_below _ _
  have k1 : W.heap[w.heap.size]? = some (.cells #[vt, vf] 25 (0, 0)) := by rw [hW]; exact alloc_new _ _
  obtain ⟨fb, foff, fcap, vb, rfl, hfb, c0, c1, hbl⟩ := fn_at hf h1
  have htW := ht.below hbW
  have hblW := hbl.below blkStays hbW
  have HP := hid (fun wx (hx : Aft W wx) => paramsR_calls p.types x vt (.slice (some ⟨fb, foff, none⟩) p.funcs.length fcap) vb wx (htW.below hx.below) ⟨_, _, _, rfl⟩ h1.sig0 h1.sig1 (hblW.below blkStays hx.below).slice)
  have HI := hid (fun wx (hx : Aft W wx) => many_calls vb x.blocks wx (hblW.below blkStays hx.below) (by omega))
  have HWR := hid (sum_wrap hle)
  have d0 := later ((hbW.cell (p := ⟨fb, foff + k * 2, none⟩) hfb).trans c0)
  have d1 := later ((hbW.cell (p := ⟨fb, foff + k * 2 + 1, none⟩) hfb).trans c1)
  obtain ⟨ta, tc, rfl⟩ := ht.slice
  obtain ⟨ba, bc, rfl, _⟩ := hbl.slice
  have l0 := later_cells k1 0 _ rfl; have l1 := later_cells k1 1 _ rfl
  have hkl : (k : Int) < p.funcs.length := by have := h1.lt; omega
  have hk0 : (0 : Int) ≤ k := by omega
  have hke := h1.eq
  have HBW := hid hbW
  have HW := hid hW
  have h0 := (Aft.refl W).drew
  clear ht hf htW hblW hbW hW k1 hbl h1 c0 c1 hle
  subst hke
  generalize parOf p.types x.sig = par at *
  generalize manyB x.blocks = nm at *
  obtain ⟨sg, bl⟩ := x
  simp only at *
  generalize p.types.length = n1 at *
  generalize p.funcs.length = n2 at *
  generalize bl.length = n4 at *
  have hwr := HWR.out
  have HPC := hid (HP.out _ h0)
  clear HP
  go_enter Tryd.func64, Tryd.ntmps64
  go_wp2_with fail
  rw [← HW.out]
  go_region_held3 (fun w' => Aft W w') (first | exact (h0.go hb3).go hb4 | exact h0.go hb3 | exact h0)
    (first | (go_at_call 76; refine HPC.out.mono ?_; rintro e w3 ⟨rfl, hb3⟩) | (go_at_call 77; refine (HI.out w3 (h0.go hb3)).mono ?_; rintro e w4 ⟨rfl, hb4⟩))
  all_goals
    have h4 := (h0.go hb3).go hb4
    go_wp2
    go_ret
    exact ⟨rfl, h4.out HBW.out⟩
end Go.Proofs.YtimnjkdhcnhkoaaDoor.ShRH

namespace Go.Proofs.YtimnjkdhcnhkoaaDoor.ShRI
open Go.RowKit Go.Lib RwO SetP IntO TyM TyP TyB TyC TyRA ShM ShP ShA ShB ShC ShE ShRA ShH ShI ShJ ShRG ShRH Aft

set_option maxRecDepth 100000 in
set_option maxHeartbeats 8000000 in
theorem regsR_calls (p : Px) (f : Int) (v : Value) (w : World) (hp : PrAt w v p) (hs : Small p) (hok : POk p) :
    Calls Tryd.prog 46 #[v, .int .i64 f] w (TwoR (if findP p f = 0 then (cntP p f : Int) else 0) (findP p f) w) := by
  have hp0 := hp
  obtain ⟨vt, vf, rfl, ht, hf⟩ := hp
  obtain ⟨W, hW⟩ : ∃ W, W = w.alloc (.cells #[vt, vf] 25) := ⟨_, rfl⟩
  have hbW : Below w.heap.size w W := by rw [hW]; exact alloc_below _ _
  have k1 : W.heap[w.heap.size]? = some (.cells #[vt, vf] 25 (0, 0)) := by rw [hW]; exact alloc_new _ _
  have hpW := hp0.below hbW
  have HA := hid (asked_calls p f _ W hpW hs hok)
  have HCT := hid (fun (k : Nat) (x : Fx) (h : Has1 p f k x) (hle : parOf p.types x.sig + manyB x.blocks ≤ 1000000) wx (hx : Aft W wx) => count_calls p f k x _ wx (hpW.below hx.below) h hle)
  obtain ⟨ta, tc, rfl⟩ := ht.slice
  obtain ⟨fa, fc, rfl, _⟩ := hf.slice
  have l0 := later_cells k1 0 _ rfl; have l1 := later_cells k1 1 _ rfl
  have HBW := hid hbW
  have HW := hid hW
  have h0 := Aft.refl W
  have HS := hid hs
  clear ht hf hpW hbW hW k1 hp0 hs hok
  by_cases hz : findP p f = 0
  rotate_left
  · rw [if_neg hz]
    have e0 : (findP p f != 0) = true := by simpa using hz
    clear HCT HS hz
    generalize findP p f = fe at *
    generalize p.types.length = n1 at *
    generalize p.funcs.length = n2 at *
    go_enter Tryd.func46, Tryd.ntmps46
    go_wp2_with fail
    rw [← HW.out]
    refine HA.out.mono ?_
    rintro e w1 ⟨rfl, hb1⟩
    have h1 := h0.go hb1
    clear HA hb1
    go_wp2
    go_ret2
    exact ⟨rfl, h1.out HBW.out⟩
  obtain ⟨k, x, h1⟩ := has1 hz
  rw [if_pos hz, cnt_at h1]
  have hle : parOf p.types x.sig + manyB x.blocks ≤ 1000000 := by
    have := par_le HS.out.parts h1.sig0 h1.sig1
    have := h1.many
    omega
  have HC := hid (HCT.out k x h1 hle)
  rw [hz] at HA ⊢
  clear HCT HS hz hle h1
  generalize parOf p.types x.sig + manyB x.blocks = cnt at *
  generalize p.types.length = n1 at *
  generalize p.funcs.length = n2 at *
  go_enter Tryd.func46, Tryd.ntmps46
  go_wp2_with fail
  rw [← HW.out]
  refine HA.out.mono ?_
  rintro e w1 ⟨rfl, hb1⟩
  have h1 := h0.go hb1
  have HC1 := hid (HC.out w1 h1)
  clear HA hb1 HC
  go_wp2_with fail
  refine HC1.out.mono ?_
  rintro e w2 ⟨rfl, hb2⟩
  have h2 := h1.go hb2
  clear HC1 hb2
  go_wp2
  go_ret2
  exact ⟨rfl, h2.out HBW.out⟩
end Go.Proofs.YtimnjkdhcnhkoaaDoor.ShRI
namespace Go.Proofs.YtimnjkdhcnhkoaaDoor.FvB
open Go.RowKit Go.Lib RwO SetP IntO TyM TyP TyB TyC TyRA ShM ShP ShA ShB ShC ShE ShRA ShH ShI ShJ ShRG ShRH ShRI Aft FwP FwQ FwR FvA

/-- one of the functions in memory, in every world behind -/
theorem fn_later {W : World} {vf : Value} {p : Px} {f : Int} {k : Nat} {x : Fx} (h : FnsAt W vf p.funcs) (h1 : Has1 p f k x) : ∃ b off cap ao c, vf = .slice (some ⟨b, off, none⟩) p.funcs.length cap ∧ (∀ w', Aft W w' → w'.cell? ⟨b, off + k * 2, none⟩ = some (.int .i64 x.sig)) ∧ (∀ w', Aft W w' → w'.cell? ⟨b, off + k * 2 + 1, none⟩ = some (.slice ao x.blocks.length c)) ∧ BlksAt W (.slice ao x.blocks.length c) x.blocks := by
  obtain ⟨b, off, cap, vb, rfl, hb, c0, c1, hbl⟩ := fn_at h h1
  obtain ⟨ao, c, rfl, _⟩ := hbl.slice
  exact ⟨b, off, cap, ao, c, rfl, later c0, later c1, hbl⟩

set_option maxRecDepth 100000 in
set_option maxHeartbeats 8000000 in
theorem asked_calls (p : Px) (f b : Int) (v : Value) (w : World) (hp : PrAt w v p) (hs : Small p) (hok : POk p) :
    Calls Tryd.prog 33 #[v, .int .i64 f, .int .i64 b] w (NumR (askB p f b) w) := by
  have hp0 := hp
  obtain ⟨vt, vf, rfl, ht, hf⟩ := hp
  obtain ⟨W, hW⟩ : ∃ W, W = w.alloc (.cells #[vt, vf] 25) := ⟨_, rfl⟩
  have hbW : Below w.heap.size w W := by rw [hW]; exact alloc_below _ _
  have k1 : W.heap[w.heap.size]? = some (.cells #[vt, vf] 25 (0, 0)) := by rw [hW]; exact alloc_new _ _
  have hpW := hp0.below hbW
  have HR := hid (regsR_calls p f _ W hpW hs hok)
  have HFN := hid (fun (k : Nat) (x : Fx) (h1 : Has1 p f k x) => fn_later (hf.below fnStays hbW) h1)
  obtain ⟨ta, tc, rfl⟩ := ht.slice
  obtain ⟨fa, fc, rfl, _⟩ := hf.slice
  have l0 := later_cells k1 0 _ rfl; have l1 := later_cells k1 1 _ rfl
  have HBW := hid hbW
  have HW := hid hW
  have h0 := Aft.refl W
  clear ht hf hpW hbW hW k1 hp0 hs hok
  by_cases hz : findP p f = 0
  rotate_left
  · rw [ask_find hz]
    have e0 : (findP p f != 0) = true := by simpa using hz
    clear HFN hz
    rw [if_neg (by simpa using e0)] at HR
    generalize findP p f = fe at *
    generalize p.types.length = n1 at *
    generalize p.funcs.length = n2 at *
    go_enter Tryd.func33, Tryd.ntmps33
    go_wp2_with fail
    rw [← HW.out]
    refine HR.out.mono ?_
    rintro e w1 ⟨rfl, hb1⟩
    have h1 := h0.go hb1
    clear HR hb1
    go_wp2
    go_ret
    exact ⟨rfl, h1.out HBW.out⟩
  obtain ⟨k, x, h1⟩ := has1 hz
  have HAY := hid (fun h0 h1 => ask_yes (p := p) (f := f) (b := b) hz h0 h1)
  have HAN := hid (fun h => ask_no (p := p) (f := f) (b := b) hz h)
  rw [fn_blocks h1] at HAY HAN
  obtain ⟨fb, foff, fcap, ao, bc, he, d0, d1, _⟩ := HFN.out k x h1
  cases he
  rw [hz, if_pos rfl] at HR
  generalize (cntP p f : Int) = cnt at *
  have hke := h1.eq
  have hkl := h1.lt
  have hbl := h1.blocks
  have HBL := hid hbl
  clear HFN hz h1 hbl
  subst hke
  generalize askB p (k : Int) b = ans at *
  obtain ⟨sg, bl⟩ := x
  simp only at *
  generalize p.types.length = n1 at *
  generalize p.funcs.length = n2 at *
  generalize bl.length = n3 at *
  by_cases b0 : b < 0
  · have HA := hid (HAN.out (by omega))
    clear HAY HAN
    go_enter Tryd.func33, Tryd.ntmps33
    go_wp2_with fail
    rw [← HW.out]
    refine HR.out.mono ?_
    rintro e w1 ⟨rfl, hb1⟩
    have h1 := h0.go hb1
    have HE := hid (h1.out HBW.out)
    clear HR hb1
    go_wp2
    all_goals first | (exfalso; omega) | (go_ret; exact ⟨by rw [HA.out]; rfl, HE.out⟩)
  by_cases b1 : (n3 : Int) ≤ b
  · have HA := hid (HAN.out (by omega))
    clear HAY HAN
    go_enter Tryd.func33, Tryd.ntmps33
    go_wp2_with fail
    rw [← HW.out]
    refine HR.out.mono ?_
    rintro e w1 ⟨rfl, hb1⟩
    have h1 := h0.go hb1
    have HE := hid (h1.out HBW.out)
    clear HR hb1
    go_wp2
    all_goals first | (exfalso; omega) | (go_ret; exact ⟨by rw [HA.out]; rfl, HE.out⟩)
  · have HA := hid (HAY.out (by omega) (by omega))
    clear HAY HAN
    go_enter Tryd.func33, Tryd.ntmps33
    go_wp2_with fail
    rw [← HW.out]
    refine HR.out.mono ?_
    rintro e w1 ⟨rfl, hb1⟩
    have h1 := h0.go hb1
    have HE := hid (h1.out HBW.out)
    clear HR hb1
    go_wp2
    all_goals first | (exfalso; omega) | (go_ret; exact ⟨by rw [HA.out]; rfl, HE.out⟩)

/-- a block's end, in every world behind -/
theorem end_later {W : World} {ao : Option Addr} {n c : Nat} {l : List Bx} (h : BlksAt W (.slice ao n c) l) (b : Nat) (hb : b < l.length) : ∃ g off, ao = some ⟨g, off, none⟩ ∧ ∀ w', Aft W w' → w'.cell? ⟨g, off + b * 5 + 1, none⟩ = some (.int .u8 (endAt l b).kind) ∧ w'.cell? ⟨g, off + b * 5 + 2, none⟩ = some (.int .i64 (endAt l b).a) ∧ w'.cell? ⟨g, off + b * 5 + 3, none⟩ = some (.int .i64 (endAt l b).to) ∧ w'.cell? ⟨g, off + b * 5 + 4, none⟩ = some (.int .i64 (endAt l b).els) := by
  obtain ⟨g, off, rfl, hlt, vi, c0, c1, c2, c3, c4, _⟩ := h.at b hb
  have he : endAt l b = l[b].en := by unfold endAt; rw [List.getElem?_eq_getElem hb]; rfl
  rw [he]
  exact ⟨g, off, rfl, fun w' h => ⟨later c1 w' h, later c2 w' h, later c3 w' h, later c4 w' h⟩⟩
end Go.Proofs.YtimnjkdhcnhkoaaDoor.FvB
namespace Go.Proofs.YtimnjkdhcnhkoaaDoor.FvB
open Go.RowKit Go.Lib RwO SetP IntO TyM TyP TyB TyC TyRA ShM ShP ShA ShB ShC ShE ShRA ShH ShI ShJ ShRG ShRH ShRI Aft FwP FwQ FwR FvA

set_option maxRecDepth 100000 in
set_option maxHeartbeats 8000000 in
theorem next_calls (p : Px) (f b : Int) (v : Value) (w : World) (hp : PrAt w v p) (hs : Small p) (hok : POk p) :
    Calls Tryd.prog 17 #[v, .int .i64 f, .int .i64 b] w (LstE (nextA p f b) (askB p f b) w) := by
  have hp0 := hp
  obtain ⟨vt, vf, rfl, ht, hf⟩ := hp
  obtain ⟨W, hW⟩ : ∃ W, W = w.alloc (.cells #[vt, vf] 25) := ⟨_, rfl⟩
  have hbW : Below w.heap.size w W := by rw [hW]; exact alloc_below _ _
  have k1 : W.heap[w.heap.size]? = some (.cells #[vt, vf] 25 (0, 0)) := by rw [hW]; exact alloc_new _ _
  have hpW := hp0.below hbW
  have HR := hid (asked_calls p f b _ W hpW hs hok)
  have HFN := hid (fun (k : Nat) (x : Fx) (h1 : Has1 p f k x) => fn_later (hf.below fnStays hbW) h1)
  obtain ⟨ta, tc, rfl⟩ := ht.slice
  obtain ⟨fa, fc, rfl, _⟩ := hf.slice
  have l0 := later_cells k1 0 _ rfl; have l1 := later_cells k1 1 _ rfl
  have HBW := hid hbW
  have HW := hid hW
  have h0 := Aft.refl W
  clear ht hf hpW hbW hW k1 hp0 hs hok
  by_cases hz : askB p f b = 0
  rotate_left
  · have HN : Hid (nextA p f b = []) := by show _ = _; unfold nextA; rw [if_neg hz]
    have e0 : (askB p f b != 0) = true := by simpa using hz
    clear HFN hz
    generalize nextA p f b = na at *
    generalize askB p f b = fe at *
    generalize p.types.length = n1 at *
    generalize p.funcs.length = n2 at *
    go_enter Tryd.func17, Tryd.ntmps17
    go_wp2_with fail
    rw [← HW.out]
    refine HR.out.mono ?_
    rintro e w1 ⟨rfl, hb1⟩
    have h1 := h0.go hb1
    clear HR hb1
    go_wp2
    go_ret2
    exact ⟨_, rfl, by rw [HN.out]; exact ints_none _, h1.out HBW.out⟩
  obtain ⟨hz1, b0, b1⟩ := ask_zero hz
  obtain ⟨k, x, h1⟩ := has1 hz1
  have HN : Hid (nextA p f b = toE (endAt x.blocks b.toNat)) := by show _ = _; unfold nextA; rw [if_pos hz, fn_blocks h1]
  rw [fn_blocks h1] at b1
  obtain ⟨j, hj⟩ : ∃ j : Nat, b = j := ⟨b.toNat, by omega⟩
  subst hj
  rw [Int.toNat_natCast] at HN
  obtain ⟨fb, foff, fcap, ao, bc, he, d0, d1, hbl⟩ := HFN.out k x h1
  cases he
  have hjl : j < x.blocks.length := by omega
  obtain ⟨eb, eoff, rfl, heL⟩ := end_later hbl j hjl
  have HT := hid (fun wx => to_calls (endAt x.blocks j) wx)
  have HTL := hid (toE_len (endAt x.blocks j))
  rw [hz] at HR ⊢
  have hke := h1.eq
  have hkl := h1.lt
  clear HFN hz h1 hz1 b0 b1 hbl
  subst hke
  generalize nextA p (k : Int) (j : Int) = na at *
  obtain ⟨sg, bl⟩ := x
  simp only at *
  generalize toE (endAt bl j) = tl at *
  generalize endAt bl j = x at *
  obtain ⟨ek, ea, et, ee⟩ := x
  simp only at *
  have q1 := fun w' h => (heL w' h).1
  have q2 := fun w' h => (heL w' h).2.1
  have q3 := fun w' h => (heL w' h).2.2.1
  have q4 := fun w' h => (heL w' h).2.2.2
  clear heL
  generalize p.types.length = n1 at *
  generalize p.funcs.length = n2 at *
  generalize bl.length = n3 at *
  go_enter Tryd.func17, Tryd.ntmps17
  go_wp2_with fail
  rw [← HW.out]
  refine HR.out.mono ?_
  rintro e w1 ⟨rfl, hb1⟩
  have h1 := h0.go hb1
  clear HR hb1
  go_wp2_with fail
  refine (HT.out w1).mono ?_
  rintro e w2 ⟨u, m, rfl, hu, hb2⟩
  have h2 := h1.go hb2
  have HU := hid (intsAt_of_owns hu (by have := HTL.out; omega))
  clear HT hb2 hu
  go_wp2
  go_ret2
  exact ⟨_, rfl, by rw [HN.out]; exact HU.out, h2.out HBW.out⟩
end Go.Proofs.YtimnjkdhcnhkoaaDoor.FvB
namespace Go.Proofs.YtimnjkdhcnhkoaaDoor.FvC
open Go.RowKit Go.Lib RwO SetP IntO TyM TyP TyB TyC TyRA ShM ShP ShA ShB ShC ShE ShRA ShH ShI ShJ ShRG ShRH ShRI Aft FwP FwQ FwR FvA FvB

/-- those ahead of a block, of the first k -/
def aheadN (l : List Bx) (b k : Nat) : List Nat := (List.range k).filter fun i => decide (b ∈ succ l i)
theorem aheadN_all (l : List Bx) (b : Nat) : aheadN l b l.length = aheadL l b := rfl
theorem aheadN_len (l : List Bx) (b k : Nat) : (aheadN l b k).length ≤ k := by
  have := List.length_filter_le (fun i => decide (b ∈ succ l i)) (List.range k)
  rw [List.length_range] at this
  exact this
theorem aheadN_yes {l : List Bx} {b k : Nat} (h : b ∈ succ l k) : aheadN l b (k + 1) = aheadN l b k ++ [k] := by
  unfold aheadN
  rw [List.range_succ, List.filter_append]
  simp [h]
theorem aheadN_no {l : List Bx} {b k : Nat} (h : ¬ b ∈ succ l k) : aheadN l b (k + 1) = aheadN l b k := by
  unfold aheadN
  rw [List.range_succ, List.filter_append]
  simp [h]
theorem to_len (x : Ex) : (toE x).length ≤ 2 := toE_len x
end Go.Proofs.YtimnjkdhcnhkoaaDoor.FvC
namespace Go.Proofs.YtimnjkdhcnhkoaaDoor.FvC
open Go.RowKit Go.Lib RwO SetP IntO TyM TyP TyB TyC TyRA ShM ShP ShA ShB ShC ShE ShRA ShH ShI ShJ ShRG ShRH ShRI Aft FwP FwQ FwR FvA FvB

set_option maxRecDepth 100000 in
set_option maxHeartbeats 8000000 in
theorem ahead_calls (l : List Bx) (b : Nat) (v : Value) (w : World) (hl : BlksAt w v l) (hlow : Low l) (hlen : l.length ≤ 1000) :
    Calls Tryd.prog 35 #[v, .int .i64 b] w (LstR (ints (aheadL l b)) w) := by
  have HL := hid hl
  have HM := hid (fun k (hk : k < l.length) => succ_mem hlow (j := b) hk)
  obtain ⟨ao, cap, rfl, hll⟩ := hl.slice
  clear hl hlow
  rw [← aheadN_all]
  go_enter Tryd.func35, Tryd.ntmps35
  go_wp2
  go_loopg [5, 6] l.length (fun gk u i wr => ∃ k : Nat, k + gk = l.length ∧ i = .int .i64 k ∧ wr.ownsRow w.heap.size 3 1 u (aheadN l b k).length (intVals (ints (aheadN l b k))) ∧ Below w.heap.size w wr)
  case atStart => exact ⟨0, by omega, rfl, World.ownsRow_nil _ _ _ _, Below.refl _ _⟩
  case round =>
    obtain ⟨k, hk, rfl, hown, hbe⟩ := hrel
    have HK := hid hk
    have HLN := hid (aheadN_len l b k)
    have HOWN := hid hown
    have HBE := hid hbe
    obtain ⟨ua, un, rfl⟩ := own_slice hown
    by_cases hlt : k < l.length
    · have HLT := hid hlt
      have HML := HM.out k hlt
      obtain ⟨g, off, rfl, heL⟩ := end_later (HL.out.below blkStays hbe) k hlt
      have HT := hid (fun wx => to_calls (endAt l k) wx)
      have HTL := hid (toE_len (endAt l k))
      have HIN := hid (fun (wx : World) (u : Value) (h : IntsAt wx u (toE (endAt l k))) => in_calls u (toE (endAt l k)) b wx h)
      have hdec : decide ((b : Int) ∈ toE (endAt l k)) = decide (b ∈ succ l k) := decide_eq_decide.2 HML.symm
      rw [hdec] at HIN
      have HYES := hid (aheadN_yes (l := l) (b := b) (k := k))
      have HNO := hid (aheadN_no (l := l) (b := b) (k := k))
      clear hk hown hbe HML hdec
      generalize toE (endAt l k) = tl at *
      generalize endAt l k = x at *
      obtain ⟨ek, ea, et, ee⟩ := x
      simp only at *
      have q1 := fun w' h => (heL w' h).1
      have q2 := fun w' h => (heL w' h).2.1
      have q3 := fun w' h => (heL w' h).2.2.1
      have q4 := fun w' h => (heL w' h).2.2.2
      have h0 := Aft.refl wr
      clear heL
      go_wp2_with fail
      refine (HT.out wr).mono ?_
      rintro e w1 ⟨u, m, rfl, hu, hb1⟩
      have h1 := h0.go hb1
      have HI1 := hid (HIN.out w1 u (intsAt_of_owns hu (by have := HTL.out; omega)))
      clear HT HIN hu hb1
      go_wp2_with fail
      refine HI1.out.mono ?_
      rintro e w2 ⟨rfl, hb2⟩
      have h2 := h1.go hb2
      have HOW2 := hid (ownsRow_below HOWN.out h2.below)
      have HBE2 := hid (h2.out HBE.out)
      clear HI1 hb2 HOWN HBE
      by_cases hin : b ∈ succ l k
      · have hd : decide (b ∈ succ l k) = true := decide_eq_true hin
        have HA := hid (HYES.out hin)
        clear HYES HNO hin
        have HO3 := hid (HOW2.out.alloc (.cells #[.int .i64 k] 3))
        have HI3 := hid (ints_one (w := w2.alloc (.cells #[.int .i64 k] 3)) (b := w2.heap.size) (n := k) (cell_new _ _ _ _ rfl) (size_new _ _ _ rfl))
        have hsz : w.heap.size ≤ (w2.alloc (.cells #[.int .i64 k] 3)).heap.size := by have := HBE2.out.size; simp only [World.size_alloc]; omega
        have hxs : (aheadN l b k).length ≤ 100000 := by have := HLN.out; have := HLT.out; omega
        rw [hd]
        go_wp2_with (at_builtin; refine wpList_append_ints rfl (.tmp 21) (.tmp 23) rfl w.heap.size (.slice ua (aheadN l b k).length un) rfl (aheadN l b k).length (intVals (ints (aheadN l b k))) HO3.out hxs (.slice (some ⟨w2.heap.size, 0, none⟩) 1 1) [(k : Int)] rfl HI3.out (by simp) hsz ?_)
        intro v' w' hown' hgr
        have HB4 := hid (own_grown (HBE2.out.alloc (by have := HBE2.out.size; omega) _) HO3.out hgr hsz)
        have HNX : Hid (w'.ownsRow w.heap.size 3 1 v' (aheadN l b (k + 1)).length (intVals (ints (aheadN l b (k + 1))))) := by
          show World.ownsRow _ _ _ _ _ _ _
          rw [HA.out, ints_append, intVals_append, List.length_append]
          exact hown'
        obtain ⟨va, vn, rfl⟩ := own_slice hown'
        clear hown' hgr HI3 HO3 HOW2 HBE2 hsz hd
        go_wp2
        go_roundg (gk - 1)
        case measure => have := HK.out; have := HLT.out; omega
        case rel => exact ⟨k + 1, by have := HK.out; have := HLT.out; omega, by go_num, by have := HNX.out; rw [HA.out, List.length_append] at this ⊢; exact this, HB4.out⟩
      · have hd : decide (b ∈ succ l k) = false := decide_eq_false hin
        have HA := hid (HNO.out hin)
        clear HYES HNO hin
        rw [hd]
        go_wp2
        go_roundg (gk - 1)
        case measure => have := HK.out; have := HLT.out; omega
        case rel => exact ⟨k + 1, by have := HK.out; have := HLT.out; omega, by go_num, by rw [HA.out]; exact HOW2.out, HBE2.out⟩
    · obtain rfl : k = l.length := by omega
      have HI := hid (intsAt_of_owns (l := ints (aheadN l b l.length)) HOWN.out (by rw [ints_length]; have := HLN.out; omega))
      clear hk hown
      generalize (aheadN l b l.length).length = m at *
      generalize l.length = n at *
      go_wp2
      go_ret
      exact ⟨_, rfl, HI.out, HBE.out⟩
end Go.Proofs.YtimnjkdhcnhkoaaDoor.FvC
namespace Go.Proofs.YtimnjkdhcnhkoaaDoor.FvC
open Go.RowKit Go.Lib RwO SetP IntO TyM TyP TyB TyC TyRA ShM ShP ShA ShB ShC ShE ShRA ShH ShI ShJ ShRG ShRH ShRI Aft FwP FwQ FwR FvA FvB

set_option maxRecDepth 100000 in
set_option maxHeartbeats 8000000 in
theorem preds_calls (p : Px) (f b : Int) (v : Value) (w : World) (hp : PrAt w v p) (hs : Small p) (hok : POk p) :
    Calls Tryd.prog 19 #[v, .int .i64 f, .int .i64 b] w (LstE (predsA p f b) (askB p f b) w) := by
  have hp0 := hp
  obtain ⟨vt, vf, rfl, ht, hf⟩ := hp
  obtain ⟨W, hW⟩ : ∃ W, W = w.alloc (.cells #[vt, vf] 25) := ⟨_, rfl⟩
  have hbW : Below w.heap.size w W := by rw [hW]; exact alloc_below _ _
  have k1 : W.heap[w.heap.size]? = some (.cells #[vt, vf] 25 (0, 0)) := by rw [hW]; exact alloc_new _ _
  have hpW := hp0.below hbW
  have HR := hid (asked_calls p f b _ W hpW hs hok)
  have HFN := hid (fun (k : Nat) (x : Fx) (h1 : Has1 p f k x) => fn_later (hf.below fnStays hbW) h1)
  have HOK := hid hok
  obtain ⟨ta, tc, rfl⟩ := ht.slice
  obtain ⟨fa, fc, rfl, _⟩ := hf.slice
  have l0 := later_cells k1 0 _ rfl; have l1 := later_cells k1 1 _ rfl
  have HBW := hid hbW
  have HW := hid hW
  have h0 := Aft.refl W
  clear ht hf hpW hbW hW k1 hp0 hs hok
  by_cases hz : askB p f b = 0
  rotate_left
  · have HN : Hid (predsA p f b = []) := by show _ = _; unfold predsA; rw [if_neg hz]
    have e0 : (askB p f b != 0) = true := by simpa using hz
    clear HFN hz HOK
    generalize predsA p f b = na at *
    generalize askB p f b = fe at *
    generalize p.types.length = n1 at *
    generalize p.funcs.length = n2 at *
    go_enter Tryd.func19, Tryd.ntmps19
    go_wp2_with fail
    rw [← HW.out]
    refine HR.out.mono ?_
    rintro e w1 ⟨rfl, hb1⟩
    have h1 := h0.go hb1
    clear HR hb1
    go_wp2
    go_ret2
    exact ⟨_, rfl, by rw [HN.out]; exact ints_none _, h1.out HBW.out⟩
  obtain ⟨hz1, b0, b1⟩ := ask_zero hz
  obtain ⟨hlow, _, hl16⟩ := low_fn HOK.out hz1
  obtain ⟨k, x, h1⟩ := has1 hz1
  have HN : Hid (predsA p f b = ints (aheadL x.blocks b.toNat)) := by show _ = _; unfold predsA; rw [if_pos hz, fn_blocks h1]
  rw [fn_blocks h1] at b1 hlow hl16
  obtain ⟨j, hj⟩ : ∃ j : Nat, b = j := ⟨b.toNat, by omega⟩
  subst hj
  rw [Int.toNat_natCast] at HN
  obtain ⟨fb, foff, fcap, ao, bc, he, d0, d1, hbl⟩ := HFN.out k x h1
  cases he
  have HC := hid (fun wx (h : Aft W wx) => ahead_calls x.blocks j _ wx (hbl.below blkStays h.below) hlow (by omega))
  rw [hz] at HR ⊢
  have hke := h1.eq
  have hkl := h1.lt
  clear HFN hz h1 hz1 b0 b1 hbl hlow hl16 HOK
  subst hke
  generalize predsA p (k : Int) (j : Int) = na at *
  obtain ⟨sg, bl⟩ := x
  simp only at *
  generalize ints (aheadL bl j) = tl at *
  generalize p.types.length = n1 at *
  generalize p.funcs.length = n2 at *
  generalize bl.length = n3 at *
  go_enter Tryd.func19, Tryd.ntmps19
  go_wp2_with fail
  rw [← HW.out]
  refine HR.out.mono ?_
  rintro e w1 ⟨rfl, hb1⟩
  have h1 := h0.go hb1
  have HC1 := hid (HC.out w1 h1)
  clear HR hb1 HC
  go_wp2_with fail
  refine HC1.out.mono ?_
  rintro e w2 ⟨u, rfl, hu, hb2⟩
  have h2 := h1.go hb2
  have HU := hid hu
  clear HC1 hb2 hu
  go_wp2
  go_ret2
  exact ⟨_, rfl, by rw [HN.out]; exact HU.out, h2.out HBW.out⟩
end Go.Proofs.YtimnjkdhcnhkoaaDoor.FvC
namespace Go.Proofs.YtimnjkdhcnhkoaaDoor.FvD
open Go.RowKit Go.Lib RwO SetP IntO TyM TyP TyB TyC ShM ShP ShA ShB ShC ShE ShH ShI ShJ Aft FwM FwC FwP FwQ FwR FvA FvB FvC FvP RwB

/-- a row of bools -/
def BoolsR (bs : List Bool) (w : World) (e : Ending) (w' : World) : Prop := ∃ g, e = .returned (.slice (some ⟨g, 0, none⟩) bs.length bs.length) ∧ RowB w.heap.size g bs w' ∧ Below w.heap.size w w'

theorem ne_dec (a b : Int) : (a != b) = decide (a ≠ b) := by
  by_cases h : a = b <;> simp [h]

set_option maxRecDepth 100000 in
set_option maxHeartbeats 8000000 in
theorem come_calls (l : List Bx) (first : List Nat) (but : Int) (vl vf : Value) (w : World) (hl : BlksAt w vl l) (hf : IntsAt w vf (ints first)) (hlow : Low l) (hfl : ∀ a ∈ first, a < l.length) (hlen : l.length ≤ 1000) :
    Calls Tryd.prog 48 #[vl, vf, .int .i64 but] w (BoolsR (comeO (succ l) but l.length first) w) := by
  have HL := hid hl
  have HF := hid hf
  have HLOW := hid hlow
  have HFL := hid hfl
  have HLEN := hid hlen
  obtain ⟨ao, cap, rfl, hll⟩ := hl.slice
  obtain ⟨fo, fc, rfl, hfll⟩ := ints_slice hf
  rw [ints_length] at HF hfll ⊢
  clear hl hf hlow hfl
  obtain ⟨i0, hi, hz0, hz1, hz2⟩ := info_parts info_bool
  have hmk : ∀ wx : World, (Instr.makeSlice 91 (.int .i64 (l.length : Int)) (.int .i64 (l.length : Int))).run Tryd.prog wx = .ok (.slice (some ⟨wx.heap.size, 0, none⟩) l.length l.length) (wx.alloc (.cells (madeCells (Value.bool false).cells l.length) 4)) := by
    intro wx
    have := run_make (P := Tryd.prog) wx 91 4 i0 (.bool false) Tryd.underlying91 hi hz0 .i64 .i64 l.length l.length (by omega) (by omega) (by rw [hz2]; omega) (by omega)
    rw [hz1, Int.toNat_natCast, Nat.mul_one] at this
    exact this
  have HR0 := hid (row_made w w.heap.size l.length (Nat.le_refl _) hlen)
  have HB0 := hid (alloc_below w (.cells (madeCells (Value.bool false).cells l.length) 4))
  clear hi hlen hz0 hz1 hz2
  go_enter Tryd.func48, Tryd.ntmps48
  go_wp2
  go_loopg [8] first.length (fun gk iv wr => ∃ i : Nat, i + gk = first.length ∧ iv = .int .i64 i ∧ RowB w.heap.size w.heap.size (startO but l.length first i) wr ∧ Below w.heap.size w wr)
  case atStart => exact ⟨0, by omega, rfl, HR0.out, HB0.out⟩
  case round =>
    obtain ⟨i, hi, rfl, hrow, hbe⟩ := hrel
    have HI := hid hi
    have HROW := hid hrow
    have HBE := hid hbe
    clear hi hrow hmk
    by_cases hlt : i < first.length
    · have HLT := hid hlt
      obtain ⟨b2, o2, rfl, _, c2⟩ := TyP.ints_at (HF.out.below hbe) i (by rw [ints_length]; exact hlt)
      rw [nums_at hlt] at c2
      have hm := HFL.out first[i] (List.getElem_mem hlt)
      have HNX := hid (startO_succ (but := but) (n := l.length) hlt)
      obtain ⟨b, _, _, hy, hfz⟩ := HROW.out.at first[i] (by rw [startO_len]; exact hm)
      have HST := hid (fun v => HROW.out.set first[i] v)
      have hm1 : (first[i] : Int) < (l.length : Int) := by omega
      have hlt1 : (i : Int) < (first.length : Int) := by omega
      clear hbe
      generalize first[i] = m at *
      go_wp2
      go_region
      all_goals
        obtain ⟨wd, hwd⟩ : ∃ wd, wd = (wr.setCell ⟨w.heap.size, m, none⟩ (.bool ((m : Int) != but))).drew := ⟨_, rfl⟩
        rw [← hwd]
        have HBE2 : Hid (Below w.heap.size w wd) := by show Below _ _ _; rw [hwd]; exact (HBE.out.setCell (p := ⟨w.heap.size, m, none⟩) (Nat.le_refl _) _).drew
        have HR2 : Hid (RowB w.heap.size w.heap.size ((startO but l.length first i).set m (decide ((m : Int) ≠ but))) wd) := by show RowB _ _ _ _; rw [hwd, ne_dec]; exact (HST.out _).below ((Below.refl _ _).drew)
        clear hwd
        go_wp2
        go_roundg (gk - 1)
        case measure => have := HI.out; have := HLT.out; omega
        case rel => exact ⟨i + 1, by have := HI.out; have := HLT.out; omega, by go_num, by rw [HNX.out]; exact HR2.out, HBE2.out⟩
    · obtain rfl : i = first.length := by have := HI.out; omega
      rw [startO_all] at HROW
      have HSL : Hid ((FwC.start but l.length first).length = l.length) := FwC.start_len _ _ _
      have HCO : Hid (comeO (succ l) but l.length first = passes (succ l) but l.length l.length (FwC.start but l.length first)) := rfl
      generalize comeO (succ l) but l.length first = ans at *
      generalize FwC.start but l.length first = st at *
      obtain ⟨wo, hwo⟩ : ∃ wo : World, wo = wr := ⟨wr, rfl⟩
      subst hwo
      clear HI HR0 HB0 HF HFL
      generalize first.length = fl at *
      clear hlt hbe
      go_wp2
      go_loopg [9] l.length (fun gk nv wr => ∃ n : Nat, n + gk = l.length ∧ nv = .int .i64 n ∧ RowB w.heap.size w.heap.size (passes (succ l) but l.length n st) wr ∧ Below w.heap.size w wr)
      case atStart => exact ⟨0, by omega, rfl, HROW.out, HBE.out⟩
      case round =>
        obtain ⟨n, hn, rfl, hrow, hbe⟩ := hrel
        have HN := hid hn
        have HROW2 := hid hrow
        have HBE2 := hid hbe
        clear hn hrow
        by_cases hlt : n < l.length
        · have HLT := hid hlt
          have HPL : Hid ((passes (succ l) but l.length n st).length = l.length) := (passes_len _ _ _ _ _).trans HSL.out
          have HNX : Hid (passes (succ l) but l.length (n + 1) st = midO (succ l) but (passes (succ l) but l.length n st) l.length) := passes_snoc _ _ _ _ _
          generalize passes (succ l) but l.length n st = bs0 at *
          obtain ⟨wn, hwn⟩ : ∃ wn : World, wn = wr := ⟨wr, rfl⟩
          subst hwn
          obtain ⟨g2, hg2⟩ : ∃ g2 : Nat, g2 = gk := ⟨gk, rfl⟩
          subst hg2
          clear hbe HROW HBE
          go_wp2
          go_loopg [10] l.length (fun gk3 iv wr => ∃ i : Nat, i + gk3 = l.length ∧ iv = .int .i64 i ∧ RowB w.heap.size w.heap.size (midO (succ l) but bs0 i) wr ∧ Below w.heap.size w wr)
          case atStart => exact ⟨0, by omega, rfl, HROW2.out, HBE2.out⟩
          case round =>
            obtain ⟨i, hi, rfl, hrow, hbe⟩ := hrel
            have HI := hid hi
            have HROW3 := hid hrow
            have HBE3 := hid hbe
            clear hi hrow
            by_cases hlti : i < l.length
            · have HLTI := hid hlti
              obtain ⟨g, off, rfl, heL⟩ := end_later (HL.out.below blkStays hbe) i hlti
              have HT := hid (fun wx => to_calls (endAt l i) wx)
              rw [← ints_succ HLOW.out hlti] at HT
              have HSX := hid (fun j (hj : j ∈ succ l i) => succ_lt HLOW.out i hlti j hj)
              have HSL2 := hid (succ_len l i)
              have HML : Hid ((midO (succ l) but bs0 i).length = l.length) := (midO_len _ _ _ _).trans HPL.out
              have HYES := hid (midO_yes (t := succ l) (but := but) (out := bs0) (i := i))
              have HNO := hid (midO_no (t := succ l) (but := but) (out := bs0) (i := i))
              have HBI : Hid (∃ b, (midO (succ l) but bs0 i)[i]? = some b) := ⟨_, List.getElem?_eq_getElem (by rw [HML.out]; exact hlti)⟩
              generalize midO (succ l) but bs0 i = bs1 at *
              generalize succ l i = tl at *
              generalize endAt l i = x at *
              obtain ⟨ek, ea, et, ee⟩ := x
              simp only at *
              have q1 := fun w' h => (heL w' h).1
              have q2 := fun w' h => (heL w' h).2.1
              have q3 := fun w' h => (heL w' h).2.2.1
              have q4 := fun w' h => (heL w' h).2.2.2
              obtain ⟨wp, hwp⟩ : ∃ wp : World, wp = wr := ⟨wr, rfl⟩
              subst hwp
              have h0 := Aft.refl wp
              clear heL hbe HROW2 HBE2
              go_wp2_with fail
              refine (HT.out wp).mono ?_
              rintro e w1 ⟨u, m, rfl, hu, hb1⟩
              have h1 := h0.go hb1
              obtain rfl : m = tl.length := by have := hu.1; rw [intVals_length, ints_length] at this; omega
              have HR1 := hid (HROW3.out.below hb1)
              have HB1 := hid (h1.out HBE3.out)
              have HGB : Hid (w.heap.size < wp.heap.size) := by
                obtain ⟨_, _, _, hc, _⟩ := HROW3.out.at i (by rw [HML.out]; exact hlti)
                exact World.block_lt_of_cell? _ ⟨w.heap.size, i, none⟩ hc
              have HOU := hid hu
              obtain ⟨ua, un, rfl⟩ := own_slice hu
              clear HT hb1 hu h0 h1 HROW3 HBE3
              obtain ⟨bi, hbi⟩ := HBI.out
              obtain ⟨g3, hg3⟩ : ∃ g3 : Nat, g3 = gk := ⟨gk, rfl⟩
              subst hg3
              have hhas := has_at hbi
              cases bi with
              | false =>
                have HNX2 := hid (HNO.out hhas)
                have HHI := hid hbi
                clear HYES HNO HBI hbi hhas
                go_wp2_with fail
                go_loopg [12] 0 (fun gk4 kv wr => kv = .int .i64 0 ∧ RowB w.heap.size w.heap.size bs1 wr ∧ Below w.heap.size w wr)
                case atStart => exact ⟨rfl, HR1.out, HB1.out⟩
                case round =>
                  obtain ⟨rfl, hrow, hbe⟩ := hrel
                  have HR4 := hid hrow
                  have HB4 := hid hbe
                  obtain ⟨b, hb, _, hy, _⟩ := hrow.at i (by rw [HML.out]; exact hlti)
                  rw [HHI.out] at hb
                  cases hb
                  have hli : (i : Int) < (l.length : Int) := by omega
                  clear hrow hbe
                  by_cases h0l : 0 < tl.length
                  all_goals
                    go_wp2
                    go_roundg (g3 - 1)
                    case measure => have := HI.out; have := HLTI.out; omega
                    case rel => exact ⟨i + 1, by have := HI.out; have := HLTI.out; omega, by go_num, by rw [HNX2.out]; exact HR4.out, HB4.out⟩
              | true =>
                have HNX2 := hid (HYES.out hhas)
                have HHS := hid hhas
                clear HYES HNO HBI hbi hhas
                go_wp2_with fail
                go_loopg [12] tl.length (fun gk4 kv wr => ∃ k : Nat, k + gk4 = tl.length ∧ kv = .int .i64 k ∧ RowB w.heap.size w.heap.size (inO but tl k bs1) wr ∧ Below w.heap.size w wr ∧ wr.ownsRow wp.heap.size 3 1 (.slice ua tl.length un) tl.length (intVals (ints tl)))
                case atStart => exact ⟨0, by omega, rfl, HR1.out, HB1.out, HOU.out⟩
                case round =>
                  obtain ⟨k, hk, rfl, hrow, hbe, hou⟩ := hrel
                  have HK := hid hk
                  have HR4 := hid hrow
                  have HB4 := hid hbe
                  have HO4 := hid hou
                  obtain ⟨b, hb, _, hy, _⟩ := hrow.at i (by rw [inO_len, HML.out]; exact hlti)
                  have hbt := has_at hb
                  rw [inO_has HHS.out] at hbt
                  subst hbt
                  have hli : (i : Int) < (l.length : Int) := by omega
                  by_cases hltk : k < tl.length
                  · have HLTK := hid hltk
                    have hai := intsAt_of_owns hou (by rw [ints_length]; have := HSL2.out; omega)
                    obtain ⟨b2, o2, rfl, _, c2⟩ := TyP.ints_at hai k (by rw [ints_length]; exact hltk)
                    rw [nums_at hltk] at c2
                    have hj := HSX.out tl[k] (List.getElem_mem hltk)
                    have HNX3 := hid (inO_succ (but := but) (out := bs1) hltk)
                    obtain ⟨bj, hbj, _, hyj, hfz⟩ := hrow.at tl[k] (by rw [inO_len, HML.out]; exact hj)
                    have hjb := has_at hbj
                    have HST := hid (fun v => hrow.set tl[k] v)
                    have HOS := hid (fun v => owns_set (i := tl[k]) (u := v) hou HGB.out)
                    have hj1 : (tl[k] : Int) < (l.length : Int) := by omega
                    have hk1 : (k : Int) < (tl.length : Int) := by omega
                    have hkb : k ≤ 9223372036854775806 := by have := HSL2.out; omega
                    clear hrow hbe hou hai hk hb hbj
                    generalize tl[k] = j at *
                    rw [hjb] at HNX3
                    clear hjb
                    cases bj with
                    | true =>
                      go_wp2
                      go_region
                      all_goals
                        obtain ⟨wd, hwd⟩ : ∃ wd, wd = (wr.setCell ⟨w.heap.size, j, none⟩ (.bool (true))).drew := ⟨_, rfl⟩
                        rw [← hwd]
                        have HB5 : Hid (Below w.heap.size w wd) := by show Below _ _ _; rw [hwd]; exact (HB4.out.setCell (p := ⟨w.heap.size, j, none⟩) (Nat.le_refl _) _).drew
                        have HR5 : Hid (RowB w.heap.size w.heap.size (inO but tl (k + 1) bs1) wd) := by show RowB _ _ _ _; rw [HNX3.out, hwd]; exact (HST.out _).below ((Below.refl _ _).drew)
                        have HO5 : Hid (wd.ownsRow wp.heap.size 3 1 (.slice (some ⟨b2, o2, none⟩) tl.length un) tl.length (intVals (ints tl))) := by show World.ownsRow _ _ _ _ _ _ _; rw [hwd]; exact ownsRow_below (HOS.out _) ((Below.refl _ _).drew)
                        clear hwd HOS HST HNX3
                        go_wp2
                        go_roundg (gk - 1)
                        case measure => have := HK.out; have := HLTK.out; omega
                        case rel => exact ⟨k + 1, by have := HK.out; have := HLTK.out; omega, by go_num, HR5.out, HB5.out, HO5.out⟩
                    | false =>
                      go_wp2
                      go_region
                      all_goals
                        obtain ⟨wd, hwd⟩ : ∃ wd, wd = (wr.setCell ⟨w.heap.size, j, none⟩ (.bool ((j : Int) != but))).drew := ⟨_, rfl⟩
                        rw [← hwd]
                        have HB5 : Hid (Below w.heap.size w wd) := by show Below _ _ _; rw [hwd]; exact (HB4.out.setCell (p := ⟨w.heap.size, j, none⟩) (Nat.le_refl _) _).drew
                        have HR5 : Hid (RowB w.heap.size w.heap.size (inO but tl (k + 1) bs1) wd) := by show RowB _ _ _ _; rw [HNX3.out, hwd]; rw [Bool.false_or, ne_dec]; exact (HST.out _).below ((Below.refl _ _).drew)
                        have HO5 : Hid (wd.ownsRow wp.heap.size 3 1 (.slice (some ⟨b2, o2, none⟩) tl.length un) tl.length (intVals (ints tl))) := by show World.ownsRow _ _ _ _ _ _ _; rw [hwd]; exact ownsRow_below (HOS.out _) ((Below.refl _ _).drew)
                        clear hwd HOS HST HNX3
                        go_wp2
                        go_roundg (gk - 1)
                        case measure => have := HK.out; have := HLTK.out; omega
                        case rel => exact ⟨k + 1, by have := HK.out; have := HLTK.out; omega, by go_num, HR5.out, HB5.out, HO5.out⟩
                  · obtain rfl : k = tl.length := by have := HK.out; omega
                    rw [← HNX2.out] at HR4
                    clear hrow hbe hou hk hb
                    go_wp2
                    go_roundg (g3 - 1)
                    case measure => have := HI.out; have := HLTI.out; omega
                    case rel => exact ⟨i + 1, by have := HI.out; have := HLTI.out; omega, by go_num, HR4.out, HB4.out⟩
            · obtain rfl : i = l.length := by have := HI.out; omega
              rw [← HNX.out] at HROW3
              clear HI hbe HROW2 HBE2
              go_wp2
              go_roundg (g2 - 1)
              case measure => have := HN.out; have := HLT.out; omega
              case rel => exact ⟨n + 1, by have := HN.out; have := HLT.out; omega, by go_num, HROW3.out, HBE3.out⟩
        · obtain rfl : n = l.length := by have := HN.out; omega
          rw [← HCO.out] at HROW2
          have HAL : Hid (ans.length = l.length) := by show _ = _; rw [HCO.out, passes_len]; exact HSL.out
          clear HN hbe HLOW HL HCO
          go_wp2
          go_ret
          exact ⟨w.heap.size, by rw [HAL.out]; rfl, HROW2.out, HBE2.out⟩
end Go.Proofs.YtimnjkdhcnhkoaaDoor.FvD
namespace Go.Proofs.YtimnjkdhcnhkoaaDoor.FvE
open Go.RowKit Go.Lib RwO SetP IntO TyM TyP TyB TyC TyRA ShM ShP ShA ShB ShC ShE ShRA ShH ShI ShJ ShRG ShRH ShRI Aft FwM FwC FwP FwQ FwR FvA FvB FvC FvP RwB FvD

/-- the first k numbers of a kind -/
def upN (q : Nat → Bool) (k : Nat) : List Nat := (List.range k).filter q
theorem upN_len (q : Nat → Bool) (k : Nat) : (upN q k).length ≤ k := by
  have := List.length_filter_le q (List.range k)
  rw [List.length_range] at this
  exact this
theorem upN_yes {q : Nat → Bool} {k : Nat} (h : q k = true) : upN q (k + 1) = upN q k ++ [k] := by
  unfold upN
  rw [List.range_succ, List.filter_append]
  simp [h]
theorem upN_no {q : Nat → Bool} {k : Nat} (h : q k = false) : upN q (k + 1) = upN q k := by
  unfold upN
  rw [List.range_succ, List.filter_append]
  simp [h]

end Go.Proofs.YtimnjkdhcnhkoaaDoor.FvE
namespace Go.Proofs.YtimnjkdhcnhkoaaDoor.FvE
open Go.RowKit Go.Lib RwO SetP IntO TyM TyP TyB TyC TyRA ShM ShP ShA ShB ShC ShE ShRA ShH ShI ShJ ShRG ShRH ShRI Aft FwM FwC FwP FwQ FwR FvA FvB FvC FvP RwB FvD

set_option maxRecDepth 100000 in
set_option maxHeartbeats 8000000 in
theorem rounds_calls (l : List Bx) (b : Nat) (v : Value) (w : World) (hl : BlksAt w v l) (hlow : Low l) (hb : b < l.length) (hlen : l.length ≤ 1000) :
    Calls Tryd.prog 36 #[v, .int .i64 b] w (BoolR (roundsL l b) w) := by
  have HL := hid hl
  obtain ⟨ao, cap, rfl, hll⟩ := hl.slice
  obtain ⟨g, off, rfl, heL⟩ := end_later hl b hb
  have HT := hid (to_calls (endAt l b) w)
  rw [← ints_succ hlow hb] at HT
  have HS2 := hid (succ_len l b)
  have HC := hid (fun (wx : World) (u : Value) (hx : Aft w wx) (hu : IntsAt wx u (ints (succ l b))) => come_calls l (succ l b) (-1) _ u wx (hl.below blkStays hx.below) hu hlow (succ_lt hlow b hb) hlen)
  have HCL : Hid ((comeO (succ l) (-1) l.length (succ l b)).length = l.length) := come_len _ _ _ _
  have HRL : Hid (roundsL l b = has (comeO (succ l) (-1) l.length (succ l b)) b) := rfl
  have HLT := hid hb
  clear hl hlow
  generalize comeO (succ l) (-1) l.length (succ l b) = bs at *
  generalize roundsL l b = ans at *
  generalize succ l b = tl at *
  generalize endAt l b = x at *
  obtain ⟨ek, ea, et, ee⟩ := x
  simp only at *
  have q1 := fun w' h => (heL w' h).1
  have q2 := fun w' h => (heL w' h).2.1
  have q3 := fun w' h => (heL w' h).2.2.1
  have q4 := fun w' h => (heL w' h).2.2.2
  have h0 := Aft.refl w
  have hb1 : (b : Int) < (l.length : Int) := by omega
  clear heL
  go_enter Tryd.func36, Tryd.ntmps36
  go_wp2_with fail
  refine HT.out.mono ?_
  rintro e w1 ⟨u, m, rfl, hu, hb1⟩
  have h1 := h0.go hb1
  have HC1 := hid (HC.out w1 u h1 (intsAt_of_owns hu (by rw [ints_length]; have := HS2.out; omega)))
  clear HT HC hu hb1
  go_wp2_with fail
  refine HC1.out.mono ?_
  rintro e w2 ⟨gb, rfl, hrow, hb2⟩
  have h2 := h1.go hb2
  obtain ⟨x, hx, _, hy, _⟩ := hrow.at b (by rw [HCL.out]; exact hb)
  have HA : Hid (ans = x) := by show _ = _; rw [HRL.out]; exact has_at hx
  have hbs : b < bs.length := by rw [HCL.out]; exact hb
  have HE := hid h2.below
  clear HC1 hrow hb2 hx HRL HCL
  go_wp2
  go_ret
  exact ⟨by rw [HA.out]; rfl, HE.out⟩
end Go.Proofs.YtimnjkdhcnhkoaaDoor.FvE
namespace Go.Proofs.YtimnjkdhcnhkoaaDoor.FvH
open Go.RowKit Go.Lib RwO SetP IntO TyM TyP TyB TyC TyRA ShM ShP ShA ShB ShC ShE ShRA ShH ShI ShJ ShRG ShRH ShRI Aft FwM FwC FwP FwQ FwR FvA FvB FvC FvP RwB FvD FvE

set_option maxRecDepth 100000 in
set_option maxHeartbeats 8000000 in
theorem round_calls (p : Px) (f b : Int) (v : Value) (w : World) (hp : PrAt w v p) (hs : Small p) (hok : POk p) :
    Calls Tryd.prog 20 #[v, .int .i64 f, .int .i64 b] w (BoolE (roundA p f b) (askB p f b) w) := by
  have hp0 := hp
  obtain ⟨vt, vf, rfl, ht, hf⟩ := hp
  obtain ⟨W, hW⟩ : ∃ W, W = w.alloc (.cells #[vt, vf] 25) := ⟨_, rfl⟩
  have hbW : Below w.heap.size w W := by rw [hW]; exact alloc_below _ _
  have k1 : W.heap[w.heap.size]? = some (.cells #[vt, vf] 25 (0, 0)) := by rw [hW]; exact alloc_new _ _
  have hpW := hp0.below hbW
  have HR := hid (asked_calls p f b _ W hpW hs hok)
  have HFN := hid (fun (k : Nat) (x : Fx) (h1 : Has1 p f k x) => fn_later (hf.below fnStays hbW) h1)
  have HOK := hid hok
  obtain ⟨ta, tc, rfl⟩ := ht.slice
  obtain ⟨fa, fc, rfl, _⟩ := hf.slice
  have l0 := later_cells k1 0 _ rfl; have l1 := later_cells k1 1 _ rfl
  have HBW := hid hbW
  have HW := hid hW
  have h0 := Aft.refl W
  clear ht hf hpW hbW hW k1 hp0 hs hok
  by_cases hz : askB p f b = 0
  rotate_left
  · have HN : Hid (roundA p f b = false) := by show _ = _; unfold roundA; rw [if_neg hz]
    have e0 : (askB p f b != 0) = true := by simpa using hz
    clear HFN hz HOK
    generalize roundA p f b = na at *
    generalize askB p f b = fe at *
    generalize p.types.length = n1 at *
    generalize p.funcs.length = n2 at *
    go_enter Tryd.func20, Tryd.ntmps20
    go_wp2_with fail
    rw [← HW.out]
    refine HR.out.mono ?_
    rintro e w1 ⟨rfl, hb1⟩
    have h1 := h0.go hb1
    clear HR hb1
    go_wp2
    go_ret2
    exact ⟨by rw [HN.out]; rfl, h1.out HBW.out⟩
  obtain ⟨hz1, b0, b1⟩ := ask_zero hz
  obtain ⟨hlow, _, hl16⟩ := low_fn HOK.out hz1
  obtain ⟨k, x, h1⟩ := has1 hz1
  have HN : Hid (roundA p f b = roundsL x.blocks b.toNat) := by show _ = _; unfold roundA; rw [if_pos hz, fn_blocks h1]
  rw [fn_blocks h1] at b1 hlow hl16
  obtain ⟨j, hj⟩ : ∃ j : Nat, b = j := ⟨b.toNat, by omega⟩
  subst hj
  rw [Int.toNat_natCast] at HN
  obtain ⟨fb, foff, fcap, ao, bc, he, d0, d1, hbl⟩ := HFN.out k x h1
  cases he
  have hjl : j < x.blocks.length := by omega
  have HC := hid (fun wx (h : Aft W wx) => rounds_calls x.blocks j _ wx (hbl.below blkStays h.below) hlow hjl (by omega))
  rw [hz] at HR ⊢
  have hke := h1.eq
  have hkl := h1.lt
  clear HFN hz h1 hz1 b0 b1 hbl hlow hl16 HOK hjl
  subst hke
  generalize roundA p (k : Int) (j : Int) = na at *
  obtain ⟨sg, bl⟩ := x
  simp only at *
  generalize roundsL bl j = tl at *
  generalize p.types.length = n1 at *
  generalize p.funcs.length = n2 at *
  generalize bl.length = n3 at *
  go_enter Tryd.func20, Tryd.ntmps20
  go_wp2_with fail
  rw [← HW.out]
  refine HR.out.mono ?_
  rintro e w1 ⟨rfl, hb1⟩
  have h1 := h0.go hb1
  have HC1 := hid (HC.out w1 h1)
  clear HR hb1 HC
  go_wp2_with fail
  refine HC1.out.mono ?_
  rintro e w2 ⟨rfl, hb2⟩
  have h2 := h1.go hb2
  clear HC1 hb2
  go_wp2
  go_ret2
  exact ⟨by rw [HN.out]; rfl, h2.out HBW.out⟩
end Go.Proofs.YtimnjkdhcnhkoaaDoor.FvH
