/- Walks over the reference's asked, Count, Regs (fescueref06). A walk over fescueref09.asked. The first of those ahead, in plain. Walk over fescueref09.Come. The first numbers of a kind, in plain. A walk over fescueref09.Reached. Walks over fescueref09.through, Ordered. Walk over fescueref09.Ordered. Walks over fescueref09.Reach, Order. -/
import Derived.Test.YtimnjkdhcnhkoaaGreatDoorZShRMa
import Derived.Test.YtimnjkdhcnhkoaaGreatDoorZShEToShER
import Derived.Test.YtimnjkdhcnhkoaaGreatDoorZRwHToShTB
import Derived.Test.YtimnjkdhcnhkoaaGreatDoorZShIToFkW
import Derived.Test.YtimnjkdhcnhkoaaGreatDoorZFwRToTyRT
import Derived.BigRegion
namespace Go.Proofs.YtimnjkdhcnhkoaaGreatDoor.ShRG
open Go.RowKit Go.Lib RwO SetP IntO TyM TyP TyB TyC TyRA ShM ShP ShA ShB ShC ShE ShRA ShH ShI Aft

set_option maxRecDepth 100000 in
set_option maxHeartbeats 8000000 in
theorem asked_calls (p : Px) (f : Int) (v : Value) (w : World) (hp : PrAt w v p) (hs : Small p) (hok : POk p) :
    Calls Tryz.prog 48 #[v, .int .i64 f] w (NumR (findP p f) w) := by
  have hp0 := hp
  obtain ⟨vt, vf, rfl, ht, hf⟩ := hp
  obtain ⟨W, hW⟩ : ∃ W, W = w.alloc (.cells #[vt, vf] 25) := ⟨_, rfl⟩
  have hbW : Below w.heap.size w W := by rw [hW]; exact alloc_below _ _
  have k1 : W.heap[w.heap.size]? = some (.cells #[vt, vf] 25 (0, 0)) := by rw [hW]; exact alloc_new _ _
  have HCK := hid (checkP_calls p _ W (hp0.below hbW) hs hok)
  have HD : Hid (findP p f = if chkP p ≠ 0 then chkP p else if 0 ≤ f ∧ f < p.funcs.length then 0 else 2) := rfl
  obtain ⟨ta, tc, rfl⟩ := ht.slice
  obtain ⟨fa, fc, rfl, hfl⟩ := hf.slice
  have l0 := later_cells k1 0 _ rfl; have l1 := later_cells k1 1 _ rfl
  generalize findP p f = ans at *
  generalize chkP p = ck at *
  have HBW := hid hbW
  have HW := hid hW
  have h0 := Aft.refl W
  clear ht hf hbW hW hs hok k1 hp0
  generalize p.types.length = n1 at *
  generalize p.funcs.length = n2 at *
  by_cases hc : ck = 0
  rotate_left
  · rw [if_pos hc] at HD
    have e0 : (ck == 0) = false := by simpa using hc
    go_enter Tryz.func48, Tryz.ntmps48
    go_wp2_with fail
    rw [← HW.out]
    refine HCK.out.mono ?_
    rintro e w1 ⟨rfl, hb1⟩
    have h1 := h0.go hb1
    clear HCK hb1 hc
    go_wp2
    go_ret
    exact ⟨by rw [HD.out]; rfl, h1.out HBW.out⟩
  rw [if_neg (fun h => h hc)] at HD
  subst hc
  go_enter Tryz.func48, Tryz.ntmps48
  go_wp2_with fail
  rw [← HW.out]
  refine HCK.out.mono ?_
  rintro e w1 ⟨rfl, hb1⟩
  have h1 := h0.go hb1
  have HE := hid (h1.out HBW.out)
  clear HCK hb1
  by_cases f0 : f < 0
  · rw [if_neg (by omega)] at HD
    go_wp2 <;> first | (exfalso; omega) | (go_ret; exact ⟨by rw [HD.out]; rfl, HE.out⟩)
  · by_cases f1 : (n2 : Int) ≤ f
    · rw [if_neg (by omega)] at HD
      go_wp2 <;> first | (exfalso; omega) | (go_ret; exact ⟨by rw [HD.out]; rfl, HE.out⟩)
    · rw [if_pos (by omega)] at HD
      go_wp2 <;> first | (exfalso; omega) | (go_ret; exact ⟨by rw [HD.out]; rfl, HE.out⟩)
end Go.Proofs.YtimnjkdhcnhkoaaGreatDoor.ShRG

namespace Go.Proofs.YtimnjkdhcnhkoaaGreatDoor.ShRH
open Go.RowKit Go.Lib RwO SetP IntO TyM TyP TyB TyC TyRA ShM ShP ShA ShB ShC ShE ShRA ShH ShI ShJ Aft

set_option maxRecDepth 100000 in
set_option maxHeartbeats 8000000 in
theorem count_calls (p : Px) (f : Int) (k : Nat) (x : Fx) (v : Value) (w : World) (hp : PrAt w v p) (h1 : Has1 p f k x) (hle : parOf p.types x.sig + manyB x.blocks ≤ 1000000) :
    Calls Tryz.prog 49 #[v, .int .i64 f] w (NumR ((parOf p.types x.sig + manyB x.blocks : Nat) : Int) w) := by
  obtain ⟨vt, vf, rfl, ht, hf⟩ := hp
  obtain ⟨W, hW⟩ : ∃ W, W = w.alloc (.cells #[vt, vf] 25) := ⟨_, rfl⟩
  have hbW : Below w.heap.size w W := by rw [hW]; exact alloc_below _ _
  have k1 : W.heap[w.heap.size]? = some (.cells #[vt, vf] 25 (0, 0)) := by rw [hW]; exact alloc_new _ _
  obtain ⟨fb, foff, fcap, vb, rfl, hfb, c0, c1, hbl⟩ := fn_at hf h1
  have htW := ht.below hbW
  have hblW := hbl.below blkStays hbW
  have HP := hid (fun wx (hx : Aft W wx) => paramsR_calls p.types x vt (.slice (some ⟨fb, foff, none⟩) p.funcs.length fcap) vb wx (htW.below hx.below) ⟨_, _, _, rfl⟩ h1.sig0 h1.sig1 (hblW.below blkStays hx.below).slice)
  have HI := hid (fun wx (hx : Aft W wx) => many_calls vb x.blocks wx (hblW.below blkStays hx.below) (by omega))
  have HWR := hid (sum_wrap hle)
  have d0 := later ((hbW.cell (p := ⟨fb, foff + k * 2, none⟩) hfb).trans c0)
  have d1 := later ((hbW.cell (p := ⟨fb, foff + k * 2 + 1, none⟩) hfb).trans c1)
  obtain ⟨ta, tc, rfl⟩ := ht.slice
  obtain ⟨ba, bc, rfl, _⟩ := hbl.slice
  have l0 := later_cells k1 0 _ rfl; have l1 := later_cells k1 1 _ rfl
  have hkl : (k : Int) < p.funcs.length := by have := h1.lt; omega
  have hk0 : (0 : Int) ≤ k := by omega
  have hke := h1.eq
  have HBW := hid hbW
  have HW := hid hW
  have h0 := (Aft.refl W).drew
  clear ht hf htW hblW hbW hW k1 hbl h1 c0 c1 hle
  subst hke
  generalize parOf p.types x.sig = par at *
  generalize manyB x.blocks = nm at *
  obtain ⟨sg, bl⟩ := x
  simp only at *
  generalize p.types.length = n1 at *
  generalize p.funcs.length = n2 at *
  generalize bl.length = n4 at *
  have hwr := HWR.out
  have HPC := hid (HP.out _ h0)
  clear HP
  go_enter Tryz.func49, Tryz.ntmps49
  go_wp2_with fail
  rw [← HW.out]
  go_region_held3 (fun w' => Aft W w') (first | exact (h0.go hb3).go hb4 | exact h0.go hb3 | exact h0)
    (first | (go_at_call 63; refine HPC.out.mono ?_; rintro e w3 ⟨rfl, hb3⟩) | (go_at_call 64; refine (HI.out w3 (h0.go hb3)).mono ?_; rintro e w4 ⟨rfl, hb4⟩))
  all_goals
    have h4 := (h0.go hb3).go hb4
    go_wp2
    go_ret
    exact ⟨rfl, h4.out HBW.out⟩
end Go.Proofs.YtimnjkdhcnhkoaaGreatDoor.ShRH

namespace Go.Proofs.YtimnjkdhcnhkoaaGreatDoor.ShRI
open Go.RowKit Go.Lib RwO SetP IntO TyM TyP TyB TyC TyRA ShM ShP ShA ShB ShC ShE ShRA ShH ShI ShJ ShRG ShRH Aft

set_option maxRecDepth 100000 in
set_option maxHeartbeats 8000000 in
theorem regsR_calls (p : Px) (f : Int) (v : Value) (w : World) (hp : PrAt w v p) (hs : Small p) (hok : POk p) :
    Calls Tryz.prog 29 #[v, .int .i64 f] w (TwoR (if findP p f = 0 then (cntP p f : Int) else 0) (findP p f) w) := by
  have hp0 := hp
  obtain ⟨vt, vf, rfl, ht, hf⟩ := hp
  obtain ⟨W, hW⟩ : ∃ W, W = w.alloc (.cells #[vt, vf] 25) := ⟨_, rfl⟩
  have hbW : Below w.heap.size w W := by rw [hW]; exact alloc_below _ _
  have k1 : W.heap[w.heap.size]? = some (.cells #[vt, vf] 25 (0, 0)) := by rw [hW]; exact alloc_new _ _
  have hpW := hp0.below hbW
  have HA := hid (asked_calls p f _ W hpW hs hok)
  have HCT := hid (fun (k : Nat) (x : Fx) (h : Has1 p f k x) (hle : parOf p.types x.sig + manyB x.blocks ≤ 1000000) wx (hx : Aft W wx) => count_calls p f k x _ wx (hpW.below hx.below) h hle)
  obtain ⟨ta, tc, rfl⟩ := ht.slice
  obtain ⟨fa, fc, rfl, _⟩ := hf.slice
  have l0 := later_cells k1 0 _ rfl; have l1 := later_cells k1 1 _ rfl
  have HBW := hid hbW
  have HW := hid hW
  have h0 := Aft.refl W
  have HS := hid hs
  clear ht hf hpW hbW hW k1 hp0 hs hok
  by_cases hz : findP p f = 0
  rotate_left
  · rw [if_neg hz]
    have e0 : (findP p f != 0) = true := by simpa using hz
    clear HCT HS hz
    generalize findP p f = fe at *
    generalize p.types.length = n1 at *
    generalize p.funcs.length = n2 at *
    go_enter Tryz.func29, Tryz.ntmps29
    go_wp2_with fail
    rw [← HW.out]
    refine HA.out.mono ?_
    rintro e w1 ⟨rfl, hb1⟩
    have h1 := h0.go hb1
    clear HA hb1
    go_wp2
    go_ret2
    exact ⟨rfl, h1.out HBW.out⟩
  obtain ⟨k, x, h1⟩ := has1 hz
  rw [if_pos hz, cnt_at h1]
  have hle : parOf p.types x.sig + manyB x.blocks ≤ 1000000 := by
    have := par_le HS.out.parts h1.sig0 h1.sig1
    have := h1.many
    omega
  have HC := hid (HCT.out k x h1 hle)
  rw [hz] at HA ⊢
  clear HCT HS hz hle h1
  generalize parOf p.types x.sig + manyB x.blocks = cnt at *
  generalize p.types.length = n1 at *
  generalize p.funcs.length = n2 at *
  go_enter Tryz.func29, Tryz.ntmps29
  go_wp2_with fail
  rw [← HW.out]
  refine HA.out.mono ?_
  rintro e w1 ⟨rfl, hb1⟩
  have h1 := h0.go hb1
  have HC1 := hid (HC.out w1 h1)
  clear HA hb1 HC
  go_wp2_with fail
  refine HC1.out.mono ?_
  rintro e w2 ⟨rfl, hb2⟩
  have h2 := h1.go hb2
  clear HC1 hb2
  go_wp2
  go_ret2
  exact ⟨rfl, h2.out HBW.out⟩
end Go.Proofs.YtimnjkdhcnhkoaaGreatDoor.ShRI
namespace Go.Proofs.YtimnjkdhcnhkoaaGreatDoor.FvB
open Go.RowKit Go.Lib RwO SetP IntO TyM TyP TyB TyC TyRA ShM ShP ShA ShB ShC ShE ShRA ShH ShI ShJ ShRG ShRH ShRI Aft FwP FwQ FwR FvA

/-- one of the functions in memory, in every world behind -/
theorem fn_later {W : World} {vf : Value} {p : Px} {f : Int} {k : Nat} {x : Fx} (h : FnsAt W vf p.funcs) (h1 : Has1 p f k x) : ∃ b off cap ao c, vf = .slice (some ⟨b, off, none⟩) p.funcs.length cap ∧ (∀ w', Aft W w' → w'.cell? ⟨b, off + k * 2, none⟩ = some (.int .i64 x.sig)) ∧ (∀ w', Aft W w' → w'.cell? ⟨b, off + k * 2 + 1, none⟩ = some (.slice ao x.blocks.length c)) ∧ BlksAt W (.slice ao x.blocks.length c) x.blocks := by
  obtain ⟨b, off, cap, vb, rfl, hb, c0, c1, hbl⟩ := fn_at h h1
  obtain ⟨ao, c, rfl, _⟩ := hbl.slice
  exact ⟨b, off, cap, ao, c, rfl, later c0, later c1, hbl⟩

set_option maxRecDepth 100000 in
set_option maxHeartbeats 8000000 in
theorem asked_calls (p : Px) (f b : Int) (v : Value) (w : World) (hp : PrAt w v p) (hs : Small p) (hok : POk p) :
    Calls Tryz.prog 18 #[v, .int .i64 f, .int .i64 b] w (NumR (askB p f b) w) := by
  have hp0 := hp
  obtain ⟨vt, vf, rfl, ht, hf⟩ := hp
  obtain ⟨W, hW⟩ : ∃ W, W = w.alloc (.cells #[vt, vf] 25) := ⟨_, rfl⟩
  have hbW : Below w.heap.size w W := by rw [hW]; exact alloc_below _ _
  have k1 : W.heap[w.heap.size]? = some (.cells #[vt, vf] 25 (0, 0)) := by rw [hW]; exact alloc_new _ _
  have hpW := hp0.below hbW
  have HR := hid (regsR_calls p f _ W hpW hs hok)
  have HFN := hid (fun (k : Nat) (x : Fx) (h1 : Has1 p f k x) => fn_later (hf.below fnStays hbW) h1)
  obtain ⟨ta, tc, rfl⟩ := ht.slice
  obtain ⟨fa, fc, rfl, _⟩ := hf.slice
  have l0 := later_cells k1 0 _ rfl; have l1 := later_cells k1 1 _ rfl
  have HBW := hid hbW
  have HW := hid hW
  have h0 := Aft.refl W
  clear ht hf hpW hbW hW k1 hp0 hs hok
  by_cases hz : findP p f = 0
  rotate_left
  · rw [ask_find hz]
    have e0 : (findP p f != 0) = true := by simpa using hz
    clear HFN hz
    rw [if_neg (by simpa using e0)] at HR
    generalize findP p f = fe at *
    generalize p.types.length = n1 at *
    generalize p.funcs.length = n2 at *
    go_enter Tryz.func18, Tryz.ntmps18
    go_wp2_with fail
    rw [← HW.out]
    refine HR.out.mono ?_
    rintro e w1 ⟨rfl, hb1⟩
    have h1 := h0.go hb1
    clear HR hb1
    go_wp2
    go_ret
    exact ⟨rfl, h1.out HBW.out⟩
  obtain ⟨k, x, h1⟩ := has1 hz
  have HAY := hid (fun h0 h1 => ask_yes (p := p) (f := f) (b := b) hz h0 h1)
  have HAN := hid (fun h => ask_no (p := p) (f := f) (b := b) hz h)
  rw [fn_blocks h1] at HAY HAN
  obtain ⟨fb, foff, fcap, ao, bc, he, d0, d1, _⟩ := HFN.out k x h1
  cases he
  rw [hz, if_pos rfl] at HR
  generalize (cntP p f : Int) = cnt at *
  have hke := h1.eq
  have hkl := h1.lt
  have hbl := h1.blocks
  have HBL := hid hbl
  clear HFN hz h1 hbl
  subst hke
  generalize askB p (k : Int) b = ans at *
  obtain ⟨sg, bl⟩ := x
  simp only at *
  generalize p.types.length = n1 at *
  generalize p.funcs.length = n2 at *
  generalize bl.length = n3 at *
  by_cases b0 : b < 0
  · have HA := hid (HAN.out (by omega))
    clear HAY HAN
    go_enter Tryz.func18, Tryz.ntmps18
    go_wp2_with fail
    rw [← HW.out]
    refine HR.out.mono ?_
    rintro e w1 ⟨rfl, hb1⟩
    have h1 := h0.go hb1
    have HE := hid (h1.out HBW.out)
    clear HR hb1
    go_wp2
    all_goals first | (exfalso; omega) | (go_ret; exact ⟨by rw [HA.out]; rfl, HE.out⟩)
  by_cases b1 : (n3 : Int) ≤ b
  · have HA := hid (HAN.out (by omega))
    clear HAY HAN
    go_enter Tryz.func18, Tryz.ntmps18
    go_wp2_with fail
    rw [← HW.out]
    refine HR.out.mono ?_
    rintro e w1 ⟨rfl, hb1⟩
    have h1 := h0.go hb1
    have HE := hid (h1.out HBW.out)
    clear HR hb1
    go_wp2
    all_goals first | (exfalso; omega) | (go_ret; exact ⟨by rw [HA.out]; rfl, HE.out⟩)
  · have HA := hid (HAY.out (by omega) (by omega))
    clear HAY HAN
    go_enter Tryz.func18, Tryz.ntmps18
    go_wp2_with fail
    rw [← HW.out]
    refine HR.out.mono ?_
    rintro e w1 ⟨rfl, hb1⟩
    have h1 := h0.go hb1
    have HE := hid (h1.out HBW.out)
    clear HR hb1
    go_wp2
    all_goals first | (exfalso; omega) | (go_ret; exact ⟨by rw [HA.out]; rfl, HE.out⟩)

/-- a block's end, in every world behind -/
theorem end_later {W : World} {ao : Option Addr} {n c : Nat} {l : List Bx} (h : BlksAt W (.slice ao n c) l) (b : Nat) (hb : b < l.length) : ∃ g off, ao = some ⟨g, off, none⟩ ∧ ∀ w', Aft W w' → w'.cell? ⟨g, off + b * 5 + 1, none⟩ = some (.int .u8 (endAt l b).kind) ∧ w'.cell? ⟨g, off + b * 5 + 2, none⟩ = some (.int .i64 (endAt l b).a) ∧ w'.cell? ⟨g, off + b * 5 + 3, none⟩ = some (.int .i64 (endAt l b).to) ∧ w'.cell? ⟨g, off + b * 5 + 4, none⟩ = some (.int .i64 (endAt l b).els) := by
  obtain ⟨g, off, rfl, hlt, vi, c0, c1, c2, c3, c4, _⟩ := h.at b hb
  have he : endAt l b = l[b].en := by unfold endAt; rw [List.getElem?_eq_getElem hb]; rfl
  rw [he]
  exact ⟨g, off, rfl, fun w' h => ⟨later c1 w' h, later c2 w' h, later c3 w' h, later c4 w' h⟩⟩
end Go.Proofs.YtimnjkdhcnhkoaaGreatDoor.FvB
namespace Go.Proofs.YtimnjkdhcnhkoaaGreatDoor.FvC
open Go.RowKit Go.Lib RwO SetP IntO TyM TyP TyB TyC TyRA ShM ShP ShA ShB ShC ShE ShRA ShH ShI ShJ ShRG ShRH ShRI Aft FwP FwQ FwR FvA FvB

/-- those ahead of a block, of the first k -/
def aheadN (l : List Bx) (b k : Nat) : List Nat := (List.range k).filter fun i => decide (b ∈ succ l i)
theorem aheadN_all (l : List Bx) (b : Nat) : aheadN l b l.length = aheadL l b := rfl
theorem aheadN_len (l : List Bx) (b k : Nat) : (aheadN l b k).length ≤ k := by
  have := List.length_filter_le (fun i => decide (b ∈ succ l i)) (List.range k)
  rw [List.length_range] at this
  exact this
theorem aheadN_yes {l : List Bx} {b k : Nat} (h : b ∈ succ l k) : aheadN l b (k + 1) = aheadN l b k ++ [k] := by
  unfold aheadN
  rw [List.range_succ, List.filter_append]
  simp [h]
theorem aheadN_no {l : List Bx} {b k : Nat} (h : ¬ b ∈ succ l k) : aheadN l b (k + 1) = aheadN l b k := by
  unfold aheadN
  rw [List.range_succ, List.filter_append]
  simp [h]
theorem to_len (x : Ex) : (toE x).length ≤ 2 := toE_len x
end Go.Proofs.YtimnjkdhcnhkoaaGreatDoor.FvC
namespace Go.Proofs.YtimnjkdhcnhkoaaGreatDoor.FvD
open Go.RowKit Go.Lib RwO SetP IntO TyM TyP TyB TyC ShM ShP ShA ShB ShC ShE ShH ShI ShJ Aft FwM FwC FwP FwQ FwR FvA FvB FvC FvP RwB

/-- a row of bools -/
def BoolsR (bs : List Bool) (w : World) (e : Ending) (w' : World) : Prop := ∃ g, e = .returned (.slice (some ⟨g, 0, none⟩) bs.length bs.length) ∧ RowB w.heap.size g bs w' ∧ Below w.heap.size w w'

theorem ne_dec (a b : Int) : (a != b) = decide (a ≠ b) := by
  by_cases h : a = b <;> simp [h]

set_option maxRecDepth 100000 in
set_option maxHeartbeats 8000000 in
theorem come_calls (l : List Bx) (first : List Nat) (but : Int) (vl vf : Value) (w : World) (hl : BlksAt w vl l) (hf : IntsAt w vf (ints first)) (hlow : Low l) (hfl : ∀ a ∈ first, a < l.length) (hlen : l.length ≤ 1000) :
    Calls Tryz.prog 30 #[vl, vf, .int .i64 but] w (BoolsR (comeO (succ l) but l.length first) w) := by
  have HL := hid hl
  have HF := hid hf
  have HLOW := hid hlow
  have HFL := hid hfl
  have HLEN := hid hlen
  obtain ⟨ao, cap, rfl, hll⟩ := hl.slice
  obtain ⟨fo, fc, rfl, hfll⟩ := ints_slice hf
  rw [ints_length] at HF hfll ⊢
  clear hl hf hlow hfl
  obtain ⟨i0, hi, hz0, hz1, hz2⟩ := info_parts info_bool
  have hmk : ∀ wx : World, (Instr.makeSlice 76 (.int .i64 (l.length : Int)) (.int .i64 (l.length : Int))).run Tryz.prog wx = .ok (.slice (some ⟨wx.heap.size, 0, none⟩) l.length l.length) (wx.alloc (.cells (madeCells (Value.bool false).cells l.length) 4)) := by
    intro wx
    have := run_make (P := Tryz.prog) wx 76 4 i0 (.bool false) Tryz.underlying76 hi hz0 .i64 .i64 l.length l.length (by omega) (by omega) (by rw [hz2]; omega) (by omega)
    rw [hz1, Int.toNat_natCast, Nat.mul_one] at this
    exact this
  have HR0 := hid (row_made w w.heap.size l.length (Nat.le_refl _) hlen)
  have HB0 := hid (alloc_below w (.cells (madeCells (Value.bool false).cells l.length) 4))
  clear hi hlen hz0 hz1 hz2
  go_enter Tryz.func30, Tryz.ntmps30
  go_wp2
  go_loopg [8] first.length (fun gk iv wr => ∃ i : Nat, i + gk = first.length ∧ iv = .int .i64 i ∧ RowB w.heap.size w.heap.size (startO but l.length first i) wr ∧ Below w.heap.size w wr)
  case atStart => exact ⟨0, by omega, rfl, HR0.out, HB0.out⟩
  case round =>
    obtain ⟨i, hi, rfl, hrow, hbe⟩ := hrel
    have HI := hid hi
    have HROW := hid hrow
    have HBE := hid hbe
    clear hi hrow hmk
    by_cases hlt : i < first.length
    · have HLT := hid hlt
      obtain ⟨b2, o2, rfl, _, c2⟩ := TyP.ints_at (HF.out.below hbe) i (by rw [ints_length]; exact hlt)
      rw [nums_at hlt] at c2
      have hm := HFL.out first[i] (List.getElem_mem hlt)
      have HNX := hid (startO_succ (but := but) (n := l.length) hlt)
      obtain ⟨b, _, _, hy, hfz⟩ := HROW.out.at first[i] (by rw [startO_len]; exact hm)
      have HST := hid (fun v => HROW.out.set first[i] v)
      have hm1 : (first[i] : Int) < (l.length : Int) := by omega
      have hlt1 : (i : Int) < (first.length : Int) := by omega
      clear hbe
      generalize first[i] = m at *
      go_wp2
      go_region
      all_goals
        obtain ⟨wd, hwd⟩ : ∃ wd, wd = (wr.setCell ⟨w.heap.size, m, none⟩ (.bool ((m : Int) != but))).drew := ⟨_, rfl⟩
        rw [← hwd]
        have HBE2 : Hid (Below w.heap.size w wd) := by show Below _ _ _; rw [hwd]; exact (HBE.out.setCell (p := ⟨w.heap.size, m, none⟩) (Nat.le_refl _) _).drew
        have HR2 : Hid (RowB w.heap.size w.heap.size ((startO but l.length first i).set m (decide ((m : Int) ≠ but))) wd) := by show RowB _ _ _ _; rw [hwd, ne_dec]; exact (HST.out _).below ((Below.refl _ _).drew)
        clear hwd
        go_wp2
        go_roundg (gk - 1)
        case measure => have := HI.out; have := HLT.out; omega
        case rel => exact ⟨i + 1, by have := HI.out; have := HLT.out; omega, by go_num, by rw [HNX.out]; exact HR2.out, HBE2.out⟩
    · obtain rfl : i = first.length := by have := HI.out; omega
      rw [startO_all] at HROW
      have HSL : Hid ((FwC.start but l.length first).length = l.length) := FwC.start_len _ _ _
      have HCO : Hid (comeO (succ l) but l.length first = passes (succ l) but l.length l.length (FwC.start but l.length first)) := rfl
      generalize comeO (succ l) but l.length first = ans at *
      generalize FwC.start but l.length first = st at *
      obtain ⟨wo, hwo⟩ : ∃ wo : World, wo = wr := ⟨wr, rfl⟩
      subst hwo
      clear HI HR0 HB0 HF HFL
      generalize first.length = fl at *
      clear hlt hbe
      go_wp2
      go_loopg [9] l.length (fun gk nv wr => ∃ n : Nat, n + gk = l.length ∧ nv = .int .i64 n ∧ RowB w.heap.size w.heap.size (passes (succ l) but l.length n st) wr ∧ Below w.heap.size w wr)
      case atStart => exact ⟨0, by omega, rfl, HROW.out, HBE.out⟩
      case round =>
        obtain ⟨n, hn, rfl, hrow, hbe⟩ := hrel
        have HN := hid hn
        have HROW2 := hid hrow
        have HBE2 := hid hbe
        clear hn hrow
        by_cases hlt : n < l.length
        · have HLT := hid hlt
          have HPL : Hid ((passes (succ l) but l.length n st).length = l.length) := (passes_len _ _ _ _ _).trans HSL.out
          have HNX : Hid (passes (succ l) but l.length (n + 1) st = midO (succ l) but (passes (succ l) but l.length n st) l.length) := passes_snoc _ _ _ _ _
          generalize passes (succ l) but l.length n st = bs0 at *
          obtain ⟨wn, hwn⟩ : ∃ wn : World, wn = wr := ⟨wr, rfl⟩
          subst hwn
          obtain ⟨g2, hg2⟩ : ∃ g2 : Nat, g2 = gk := ⟨gk, rfl⟩
          subst hg2
          clear hbe HROW HBE
          go_wp2
          go_loopg [10] l.length (fun gk3 iv wr => ∃ i : Nat, i + gk3 = l.length ∧ iv = .int .i64 i ∧ RowB w.heap.size w.heap.size (midO (succ l) but bs0 i) wr ∧ Below w.heap.size w wr)
          case atStart => exact ⟨0, by omega, rfl, HROW2.out, HBE2.out⟩
          case round =>
            obtain ⟨i, hi, rfl, hrow, hbe⟩ := hrel
            have HI := hid hi
            have HROW3 := hid hrow
            have HBE3 := hid hbe
            clear hi hrow
            by_cases hlti : i < l.length
            · have HLTI := hid hlti
              obtain ⟨g, off, rfl, heL⟩ := end_later (HL.out.below blkStays hbe) i hlti
              have HT := hid (fun wx => to_calls (endAt l i) wx)
              rw [← ints_succ HLOW.out hlti] at HT
              have HSX := hid (fun j (hj : j ∈ succ l i) => succ_lt HLOW.out i hlti j hj)
              have HSL2 := hid (succ_len l i)
              have HML : Hid ((midO (succ l) but bs0 i).length = l.length) := (midO_len _ _ _ _).trans HPL.out
              have HYES := hid (midO_yes (t := succ l) (but := but) (out := bs0) (i := i))
              have HNO := hid (midO_no (t := succ l) (but := but) (out := bs0) (i := i))
              have HBI : Hid (∃ b, (midO (succ l) but bs0 i)[i]? = some b) := ⟨_, List.getElem?_eq_getElem (by rw [HML.out]; exact hlti)⟩
              generalize midO (succ l) but bs0 i = bs1 at *
              generalize succ l i = tl at *
              generalize endAt l i = x at *
              obtain ⟨ek, ea, et, ee⟩ := x
              simp only at *
              have q1 := fun w' h => (heL w' h).1
              have q2 := fun w' h => (heL w' h).2.1
              have q3 := fun w' h => (heL w' h).2.2.1
              have q4 := fun w' h => (heL w' h).2.2.2
              obtain ⟨wp, hwp⟩ : ∃ wp : World, wp = wr := ⟨wr, rfl⟩
              subst hwp
              have h0 := Aft.refl wp
              clear heL hbe HROW2 HBE2
              go_wp2_with fail
              refine (HT.out wp).mono ?_
              rintro e w1 ⟨u, m, rfl, hu, hb1⟩
              have h1 := h0.go hb1
              obtain rfl : m = tl.length := by have := hu.1; rw [intVals_length, ints_length] at this; omega
              have HR1 := hid (HROW3.out.below hb1)
              have HB1 := hid (h1.out HBE3.out)
              have HGB : Hid (w.heap.size < wp.heap.size) := by
                obtain ⟨_, _, _, hc, _⟩ := HROW3.out.at i (by rw [HML.out]; exact hlti)
                exact World.block_lt_of_cell? _ ⟨w.heap.size, i, none⟩ hc
              have HOU := hid hu
              obtain ⟨ua, un, rfl⟩ := own_slice hu
              clear HT hb1 hu h0 h1 HROW3 HBE3
              obtain ⟨bi, hbi⟩ := HBI.out
              obtain ⟨g3, hg3⟩ : ∃ g3 : Nat, g3 = gk := ⟨gk, rfl⟩
              subst hg3
              have hhas := has_at hbi
              cases bi with
              | false =>
                have HNX2 := hid (HNO.out hhas)
                have HHI := hid hbi
                clear HYES HNO HBI hbi hhas
                go_wp2_with fail
                go_loopg [12] 0 (fun gk4 kv wr => kv = .int .i64 0 ∧ RowB w.heap.size w.heap.size bs1 wr ∧ Below w.heap.size w wr)
                case atStart => exact ⟨rfl, HR1.out, HB1.out⟩
                case round =>
                  obtain ⟨rfl, hrow, hbe⟩ := hrel
                  have HR4 := hid hrow
                  have HB4 := hid hbe
                  obtain ⟨b, hb, _, hy, _⟩ := hrow.at i (by rw [HML.out]; exact hlti)
                  rw [HHI.out] at hb
                  cases hb
                  have hli : (i : Int) < (l.length : Int) := by omega
                  clear hrow hbe
                  by_cases h0l : 0 < tl.length
                  all_goals
                    go_wp2
                    go_roundg (g3 - 1)
                    case measure => have := HI.out; have := HLTI.out; omega
                    case rel => exact ⟨i + 1, by have := HI.out; have := HLTI.out; omega, by go_num, by rw [HNX2.out]; exact HR4.out, HB4.out⟩
              | true =>
                have HNX2 := hid (HYES.out hhas)
                have HHS := hid hhas
                clear HYES HNO HBI hbi hhas
                go_wp2_with fail
                go_loopg [12] tl.length (fun gk4 kv wr => ∃ k : Nat, k + gk4 = tl.length ∧ kv = .int .i64 k ∧ RowB w.heap.size w.heap.size (inO but tl k bs1) wr ∧ Below w.heap.size w wr ∧ wr.ownsRow wp.heap.size 3 1 (.slice ua tl.length un) tl.length (intVals (ints tl)))
                case atStart => exact ⟨0, by omega, rfl, HR1.out, HB1.out, HOU.out⟩
                case round =>
                  obtain ⟨k, hk, rfl, hrow, hbe, hou⟩ := hrel
                  have HK := hid hk
                  have HR4 := hid hrow
                  have HB4 := hid hbe
                  have HO4 := hid hou
                  obtain ⟨b, hb, _, hy, _⟩ := hrow.at i (by rw [inO_len, HML.out]; exact hlti)
                  have hbt := has_at hb
                  rw [inO_has HHS.out] at hbt
                  subst hbt
                  have hli : (i : Int) < (l.length : Int) := by omega
                  by_cases hltk : k < tl.length
                  · have HLTK := hid hltk
                    have hai := intsAt_of_owns hou (by rw [ints_length]; have := HSL2.out; omega)
                    obtain ⟨b2, o2, rfl, _, c2⟩ := TyP.ints_at hai k (by rw [ints_length]; exact hltk)
                    rw [nums_at hltk] at c2
                    have hj := HSX.out tl[k] (List.getElem_mem hltk)
                    have HNX3 := hid (inO_succ (but := but) (out := bs1) hltk)
                    obtain ⟨bj, hbj, _, hyj, hfz⟩ := hrow.at tl[k] (by rw [inO_len, HML.out]; exact hj)
                    have hjb := has_at hbj
                    have HST := hid (fun v => hrow.set tl[k] v)
                    have HOS := hid (fun v => owns_set (i := tl[k]) (u := v) hou HGB.out)
                    have hj1 : (tl[k] : Int) < (l.length : Int) := by omega
                    have hk1 : (k : Int) < (tl.length : Int) := by omega
                    have hkb : k ≤ 9223372036854775806 := by have := HSL2.out; omega
                    clear hrow hbe hou hai hk hb hbj
                    generalize tl[k] = j at *
                    rw [hjb] at HNX3
                    clear hjb
                    cases bj with
                    | true =>
                      go_wp2
                      go_region
                      all_goals
                        obtain ⟨wd, hwd⟩ : ∃ wd, wd = (wr.setCell ⟨w.heap.size, j, none⟩ (.bool (true))).drew := ⟨_, rfl⟩
                        rw [← hwd]
                        have HB5 : Hid (Below w.heap.size w wd) := by show Below _ _ _; rw [hwd]; exact (HB4.out.setCell (p := ⟨w.heap.size, j, none⟩) (Nat.le_refl _) _).drew
                        have HR5 : Hid (RowB w.heap.size w.heap.size (inO but tl (k + 1) bs1) wd) := by show RowB _ _ _ _; rw [HNX3.out, hwd]; exact (HST.out _).below ((Below.refl _ _).drew)
                        have HO5 : Hid (wd.ownsRow wp.heap.size 3 1 (.slice (some ⟨b2, o2, none⟩) tl.length un) tl.length (intVals (ints tl))) := by show World.ownsRow _ _ _ _ _ _ _; rw [hwd]; exact ownsRow_below (HOS.out _) ((Below.refl _ _).drew)
                        clear hwd HOS HST HNX3
                        go_wp2
                        go_roundg (gk - 1)
                        case measure => have := HK.out; have := HLTK.out; omega
                        case rel => exact ⟨k + 1, by have := HK.out; have := HLTK.out; omega, by go_num, HR5.out, HB5.out, HO5.out⟩
                    | false =>
                      go_wp2
                      go_region
                      all_goals
                        obtain ⟨wd, hwd⟩ : ∃ wd, wd = (wr.setCell ⟨w.heap.size, j, none⟩ (.bool ((j : Int) != but))).drew := ⟨_, rfl⟩
                        rw [← hwd]
                        have HB5 : Hid (Below w.heap.size w wd) := by show Below _ _ _; rw [hwd]; exact (HB4.out.setCell (p := ⟨w.heap.size, j, none⟩) (Nat.le_refl _) _).drew
                        have HR5 : Hid (RowB w.heap.size w.heap.size (inO but tl (k + 1) bs1) wd) := by show RowB _ _ _ _; rw [HNX3.out, hwd]; rw [Bool.false_or, ne_dec]; exact (HST.out _).below ((Below.refl _ _).drew)
                        have HO5 : Hid (wd.ownsRow wp.heap.size 3 1 (.slice (some ⟨b2, o2, none⟩) tl.length un) tl.length (intVals (ints tl))) := by show World.ownsRow _ _ _ _ _ _ _; rw [hwd]; exact ownsRow_below (HOS.out _) ((Below.refl _ _).drew)
                        clear hwd HOS HST HNX3
                        go_wp2
                        go_roundg (gk - 1)
                        case measure => have := HK.out; have := HLTK.out; omega
                        case rel => exact ⟨k + 1, by have := HK.out; have := HLTK.out; omega, by go_num, HR5.out, HB5.out, HO5.out⟩
                  · obtain rfl : k = tl.length := by have := HK.out; omega
                    rw [← HNX2.out] at HR4
                    clear hrow hbe hou hk hb
                    go_wp2
                    go_roundg (g3 - 1)
                    case measure => have := HI.out; have := HLTI.out; omega
                    case rel => exact ⟨i + 1, by have := HI.out; have := HLTI.out; omega, by go_num, HR4.out, HB4.out⟩
            · obtain rfl : i = l.length := by have := HI.out; omega
              rw [← HNX.out] at HROW3
              clear HI hbe HROW2 HBE2
              go_wp2
              go_roundg (g2 - 1)
              case measure => have := HN.out; have := HLT.out; omega
              case rel => exact ⟨n + 1, by have := HN.out; have := HLT.out; omega, by go_num, HROW3.out, HBE3.out⟩
        · obtain rfl : n = l.length := by have := HN.out; omega
          rw [← HCO.out] at HROW2
          have HAL : Hid (ans.length = l.length) := by show _ = _; rw [HCO.out, passes_len]; exact HSL.out
          clear HN hbe HLOW HL HCO
          go_wp2
          go_ret
          exact ⟨w.heap.size, by rw [HAL.out]; rfl, HROW2.out, HBE2.out⟩
end Go.Proofs.YtimnjkdhcnhkoaaGreatDoor.FvD
namespace Go.Proofs.YtimnjkdhcnhkoaaGreatDoor.FvE
open Go.RowKit Go.Lib RwO SetP IntO TyM TyP TyB TyC TyRA ShM ShP ShA ShB ShC ShE ShRA ShH ShI ShJ ShRG ShRH ShRI Aft FwM FwC FwP FwQ FwR FvA FvB FvC FvP RwB FvD

/-- the first k numbers of a kind -/
def upN (q : Nat → Bool) (k : Nat) : List Nat := (List.range k).filter q
theorem upN_len (q : Nat → Bool) (k : Nat) : (upN q k).length ≤ k := by
  have := List.length_filter_le q (List.range k)
  rw [List.length_range] at this
  exact this
theorem upN_yes {q : Nat → Bool} {k : Nat} (h : q k = true) : upN q (k + 1) = upN q k ++ [k] := by
  unfold upN
  rw [List.range_succ, List.filter_append]
  simp [h]
theorem upN_no {q : Nat → Bool} {k : Nat} (h : q k = false) : upN q (k + 1) = upN q k := by
  unfold upN
  rw [List.range_succ, List.filter_append]
  simp [h]

end Go.Proofs.YtimnjkdhcnhkoaaGreatDoor.FvE
namespace Go.Proofs.YtimnjkdhcnhkoaaGreatDoor.FvE
open Go.RowKit Go.Lib RwO SetP IntO TyM TyP TyB TyC TyRA ShM ShP ShA ShB ShC ShE ShRA ShH ShI ShJ ShRG ShRH ShRI Aft FwM FwC FwP FwQ FwR FvA FvB FvC FvP RwB FvD

set_option maxRecDepth 100000 in
set_option maxHeartbeats 8000000 in
theorem reached_calls (l : List Bx) (v : Value) (w : World) (hl : BlksAt w v l) (hlow : Low l) (hn0 : 0 < l.length) (hlen : l.length ≤ 1000) :
    Calls Tryz.prog 19 #[v] w (LstR (ints (reachedL l)) w) := by
  have hb0 := alloc_below w (.cells #[.int .i64 0] 3)
  have HC := hid (come_calls l [0] (-1) v _ _ (hl.below blkStays hb0) (ints_lit w (ints [0]) 1 #[.int .i64 0] rfl rfl (by simp [ints])) hlow (fun a ha => by rw [List.mem_singleton.1 ha]; exact hn0) hlen)
  have HCL : Hid ((comeO (succ l) (-1) l.length [0]).length = l.length) := come_len _ _ _ _
  have HRL : Hid (reachedL l = upN (fun i => has (comeO (succ l) (-1) l.length [0]) i) l.length) := rfl
  have HLEN := hid hlen
  have HB0 := hid hb0
  obtain ⟨ao, cap, rfl, hll⟩ := hl.slice
  clear hl hlow hn0 hb0
  generalize comeO (succ l) (-1) l.length [0] = bs at *
  generalize reachedL l = ans at *
  go_enter Tryz.func19, Tryz.ntmps19
  go_wp2_with fail
  refine HC.out.mono ?_
  rintro e w1 ⟨g, rfl, hrow, hb1⟩
  have hbe := HB0.out.trans (hb1.mono HB0.out.size)
  have HROW := hid hrow
  have HBE := hid hbe
  have hll2 : bs.length ≤ 1000 := by rw [HCL.out]; exact hlen
  rw [← HCL.out] at HRL
  clear HC HB0 hb1 hrow hbe HLEN hlen hll
  generalize l.length = nl at *
  go_wp2
  go_loopg [3, 5] bs.length (fun gk u i wr => ∃ k : Nat, k + gk = bs.length ∧ i = .int .i64 k ∧ wr.ownsRow w1.heap.size 3 1 u (upN (fun i => has bs i) k).length (intVals (ints (upN (fun i => has bs i) k))) ∧ Below w1.heap.size w1 wr)
  case atStart => exact ⟨0, by omega, rfl, World.ownsRow_nil _ _ _ _, Below.refl _ _⟩
  case round =>
    obtain ⟨k, hk, rfl, hown, hb⟩ := hrel
    have HK := hid hk
    have HLN := hid (upN_len (fun i => has bs i) k)
    have HOWN := hid hown
    have HB := hid hb
    obtain ⟨ua, un, rfl⟩ := own_slice hown
    by_cases hlt : k < bs.length
    · have HLT := hid hlt
      obtain ⟨b, hbk, _, hy, _⟩ := (HROW.out.below hb).at k hlt
      have hhas := has_at hbk
      have HYES := hid (upN_yes (q := fun i => has bs i) (k := k))
      have HNO := hid (upN_no (q := fun i => has bs i) (k := k))
      have hkl : (k : Int) < (bs.length : Int) := by omega
      clear hk hown hb hbk
      cases b with
      | true =>
        have HA := hid (HYES.out hhas)
        clear HYES HNO hhas
        generalize upN (fun i => has bs i) k = up at *
        have HO3 := hid (HOWN.out.alloc (.cells #[.int .i64 k] 3))
        have HI3 := hid (ints_one (w := wr.alloc (.cells #[.int .i64 k] 3)) (b := wr.heap.size) (n := k) (cell_new _ _ _ _ rfl) (size_new _ _ _ rfl))
        have hsz : w1.heap.size ≤ (wr.alloc (.cells #[.int .i64 k] 3)).heap.size := by have := HB.out.size; simp only [World.size_alloc]; omega
        have hxs : up.length ≤ 100000 := by have := HLN.out; omega
        go_wp2_with (at_builtin; refine wpList_append_ints rfl (.tmp 19) (.tmp 21) rfl w1.heap.size (.slice ua up.length un) rfl up.length (intVals (ints up)) HO3.out hxs (.slice (some ⟨wr.heap.size, 0, none⟩) 1 1) [(k : Int)] rfl HI3.out (by simp) hsz ?_)
        intro v' w' hown' hgr
        have HB4 := hid (own_grown (HB.out.alloc (by have := HB.out.size; omega) _) HO3.out hgr hsz)
        have HNX : Hid (w'.ownsRow w1.heap.size 3 1 v' (up ++ [k]).length (intVals (ints (up ++ [k])))) := by
          show World.ownsRow _ _ _ _ _ _ _
          rw [ints_append, intVals_append, List.length_append]
          exact hown'
        obtain ⟨va, vn, rfl⟩ := own_slice hown'
        clear hown' hgr HI3 HO3 hsz
        go_wp2
        go_roundg (gk - 1)
        case measure => have := HK.out; have := HLT.out; omega
        case rel => exact ⟨k + 1, by have := HK.out; have := HLT.out; omega, by go_num, by rw [HA.out]; have := HNX.out; rw [List.length_append] at this ⊢; exact this, HB4.out⟩
      | false =>
        have HA := hid (HNO.out hhas)
        clear HYES HNO hhas
        go_wp2
        go_roundg (gk - 1)
        case measure => have := HK.out; have := HLT.out; omega
        case rel => exact ⟨k + 1, by have := HK.out; have := HLT.out; omega, by go_num, by rw [HA.out]; exact HOWN.out, HB.out⟩
    · obtain rfl : k = bs.length := by omega
      rw [← HRL.out] at HOWN HLN ⊢
      have HI := hid (intsAt_of_owns (l := ints ans) HOWN.out (by rw [ints_length]; have := HLN.out; omega))
      clear hk hown
      generalize ans.length = m at *
      generalize bs.length = n at *
      go_wp2
      go_ret
      exact ⟨_, rfl, HI.out, HBE.out.trans (HB.out.mono HBE.out.size)⟩
end Go.Proofs.YtimnjkdhcnhkoaaGreatDoor.FvE
namespace Go.Proofs.YtimnjkdhcnhkoaaGreatDoor.FvF
open Go.RowKit Go.Lib RwO SetP IntO TyM TyP TyB TyC TyRA ShM ShP ShA ShB ShC ShE ShRA ShH ShI ShJ ShRG ShRH ShRI Aft FwM FwC FwP FwQ FwR FvA FvB FvC FvP RwB FvD FvE

/-- the first k of a list have been gone through -/
def thrN (t : Nat → List Nat) (F : Nat) (cs : List Nat) (k : Nat) (s : List Nat × List Nat) : List Nat × List Nat := (cs.take k).foldl (fun s c => thr t F c s) s
theorem thrN_succ {t : Nat → List Nat} {F k : Nat} {cs : List Nat} {s : List Nat × List Nat} (h : k < cs.length) : thrN t F cs (k + 1) s = thr t F cs[k] (thrN t F cs k s) := by
  unfold thrN
  rw [List.take_succ_eq_append_getElem h, List.foldl_append]
  rfl
theorem thrN_all (t : Nat → List Nat) (F : Nat) (cs : List Nat) (s : List Nat × List Nat) : thrN t F cs cs.length s = cs.foldl (fun s c => thr t F c s) s := by
  unfold thrN
  rw [List.take_length]
theorem thrN_ok {t : Nat → List Nat} {n F : Nat} (ht : ∀ i, i < n → ∀ j ∈ t i, j < n) {cs : List Nat} {s : List Nat × List Nat} (hi : Inv n s) (hc : ∀ c ∈ cs, c < n) (hF : n + 1 ≤ F + s.1.length) : ∀ k, k ≤ cs.length → Inv n (thrN t F cs k s) ∧ s.1.length ≤ (thrN t F cs k s).1.length
  | 0, _ => ⟨hi, Nat.le_refl _⟩
  | k + 1, hk => by
    obtain ⟨h1, h2⟩ := thrN_ok ht hi hc hF k (by omega)
    rw [thrN_succ (show k < cs.length by omega)]
    have hr := thr_res ht F cs[k] (thrN t F cs k s) h1 (hc _ (List.getElem_mem _)) (by omega)
    exact ⟨hr.inv, Nat.le_trans h2 hr.len⟩
theorem inv_len {n : Nat} {s : List Nat × List Nat} (h : Inv n s) : s.1.length ≤ n ∧ s.2.length ≤ n :=
  ⟨nodup_len n h.nd h.lt, nodup_len n h.nd2 fun v hv => h.lt v (h.sub v hv)⟩
theorem inv_put {n b : Nat} {s : List Nat × List Nat} (h : Inv n s) (hb : b < n) (hm : b ∉ s.1) : Inv n (s.1 ++ [b], s.2) := by
  refine ⟨?_, fun v hv => ?_, fun v hv => by simp [h.sub v hv], h.nd2⟩
  · show (s.1 ++ [b]).Nodup
    rw [List.nodup_append]
    refine ⟨h.nd, by simp, fun v hv w hw e => hm ?_⟩
    rw [List.mem_singleton.1 hw] at e
    exact e ▸ hv
  · rcases List.mem_append.1 hv with hv | hv
    · exact h.lt v hv
    · rw [List.mem_singleton.1 hv]; exact hb
theorem thr_yes {t : Nat → List Nat} {F b : Nat} {s : List Nat × List Nat} (h : b ∈ s.1) : thr t (F + 1) b s = s := by
  unfold thr
  rw [if_pos h]
theorem thr_no {t : Nat → List Nat} {F b : Nat} {s : List Nat × List Nat} (h : b ∉ s.1) : thr t (F + 1) b s = ((thrN t F (t b) (t b).length (s.1 ++ [b], s.2)).1, (thrN t F (t b) (t b).length (s.1 ++ [b], s.2)).2 ++ [b]) := by
  rw [thrN_all]
  conv => lhs; unfold thr
  rw [if_neg h]

set_option maxRecDepth 100000 in
set_option maxHeartbeats 8000000 in
theorem through_any (l : List Bx) (hlow : Low l) (hlen : l.length ≤ 1000) : ∀ (F b : Nat) (s : List Nat × List Nat) (vl vb vo : Value) (w : World), BlksAt w vl l → b < l.length → IntsAt w vb (ints s.1) → IntsAt w vo (ints s.2) → Inv l.length s → l.length + 1 ≤ F + s.1.length →
    Calls Tryz.prog 32 #[vl, .int .i64 b, vb, vo] w (LstR2 (ints (thr (succ l) F b s).1) (ints (thr (succ l) F b s).2) w)
  | 0, b, s, vl, vb, vo, w, _, _, _, _, hi, hF => by
    have := (inv_len hi).1
    omega
  | F + 1, b, s, vl, vb, vo, w, hl, hb, hvb, hvo, hi, hF => by
    have IH := hid (through_any l hlow hlen F)
    have HIN := hid (in_calls vb (ints s.1) b w hvb)
    have hdec : decide ((b : Int) ∈ ints s.1) = decide (b ∈ s.1) := decide_eq_decide.2 ints_mem
    rw [hdec] at HIN
    clear hdec
    obtain ⟨a1, c1, rfl, hl1⟩ := ints_slice hvb
    obtain ⟨a2, c2, rfl, hl2⟩ := ints_slice hvo
    have HVB := hid hvb
    have HVO := hid hvo
    have HL := hid hl
    obtain ⟨ao, cap, rfl, hll⟩ := hl.slice
    rw [ints_length] at HVB HVO HIN hl1 hl2
    rw [ints_length, ints_length]
    clear hvb hvo hl
    by_cases hm : b ∈ s.1
    · rw [thr_yes hm]
      have hd : decide (b ∈ s.1) = true := decide_eq_true hm
      rw [hd] at HIN
      clear hm hd IH hF hi hlow
      generalize ints s.1 = x1 at *
      generalize ints s.2 = x2 at *
      generalize s.1.length = n1 at *
      generalize s.2.length = n2 at *
      generalize l.length = n3 at *
      go_enter Tryz.func32, Tryz.ntmps32
      go_wp2_with fail
      refine HIN.out.mono ?_
      rintro e w1 ⟨rfl, hb1⟩
      have HX1 := hid (HVB.out.below hb1)
      have HX2 := hid (HVO.out.below hb1)
      have HB1 := hid hb1
      clear HIN hb1
      go_wp2
      go_ret2
      exact ⟨_, _, rfl, HX1.out, HX2.out, HB1.out⟩
    · have hd : decide (b ∈ s.1) = false := decide_eq_false hm
      rw [hd] at HIN
      rw [thr_no hm]
      have HOK := hid (thrN_ok (F := F) (succ_lt hlow) (inv_put hi hb hm) (succ_lt hlow b hb) (by simp only [List.length_append, List.length_singleton]; omega))
      have HLS := hid (inv_len hi)
      have HF := hid hF
      have HB := hid hb
      have HLEN := hid hlen
      have HSX := hid (succ_lt hlow b hb)
      have HSL2 := hid (succ_len l b)
      have HNX := hid (fun k (h : k < (succ l b).length) => thrN_succ (t := succ l) (F := F) (s := (s.1 ++ [b], s.2)) h)
      have HAP : Hid (ints (s.1 ++ [b]) = ints s.1 ++ [(b : Int)]) := ints_append _ _
      have HT := hid (fun wx => to_calls (endAt l b) wx)
      rw [← ints_succ hlow hb] at HT
      have HZ : Hid (thrN (succ l) F (succ l b) 0 (s.1 ++ [b], s.2) = (s.1 ++ [b], s.2)) := rfl
      obtain ⟨g, off, rfl, heL⟩ := end_later HL.out b hb
      obtain ⟨T, hT⟩ : ∃ T, T = fun k => thrN (succ l) F (succ l b) k (s.1 ++ [b], s.2) := ⟨_, rfl⟩
      have hTk : ∀ k, thrN (succ l) F (succ l b) k (s.1 ++ [b], s.2) = T k := fun k => by rw [hT]
      simp only [hTk] at HOK HNX HZ ⊢
      clear hTk hT hm hd hi hF hlow
      obtain ⟨s1, s2⟩ := s
      simp only at *
      generalize succ l b = tl at *
      generalize endAt l b = x at *
      obtain ⟨ek, ea, et, ee⟩ := x
      simp only at *
      have q1 := fun w' h => (heL w' h).1
      have q2 := fun w' h => (heL w' h).2.1
      have q3 := fun w' h => (heL w' h).2.2.1
      have q4 := fun w' h => (heL w' h).2.2.2
      have h0 := Aft.refl w
      clear heL
      go_enter Tryz.func32, Tryz.ntmps32
      go_wp2_with fail
      refine HIN.out.mono ?_
      rintro e w1 ⟨rfl, hb1⟩
      have h1 := h0.go hb1
      have HO1 := hid (World.ownsRow_made (base := w1.heap.size) (e := 3) (size := 1) w1 #[] 0 (Nat.le_refl _) (by decide) (by simp))
      have hb1a : Below w1.heap.size w1 (w1.alloc (.cells #[] 3)) := alloc_below _ _
      have HX1 := hid (HVB.out.below ((h1.go hb1a).below))
      have HX2 := hid (HVO.out.below h1.below)
      have HB1 := hid hb1a
      have hsz : w1.heap.size ≤ (w1.alloc (.cells #[] 3)).heap.size := by rw [World.size_alloc]; omega
      clear HIN hb1 hb1a
      go_wp2_with (at_builtin; refine wpList_clone_ints rfl (.tmp 17) (.tmp 18) rfl w1.heap.size (.slice (some ⟨w1.heap.size, 0, none⟩) 0 0) rfl HO1.out (.slice a1 s1.length c1) (ints s1) rfl HX1.out (by rw [ints_length]; have := HLS.out.1; have := HLEN.out; omega) hsz ?_)
      intro v' m w2 hv' hb'
      have hb2 : Below w1.heap.size w1 w2 := HB1.out.trans hb'
      obtain rfl : m = s1.length := by have := hv'.1; rw [intVals_length, ints_length] at this; omega
      obtain ⟨qa, qc, rfl⟩ := own_slice hv'
      have HO2 := hid (hv'.alloc (.cells #[.int .i64 b] 3))
      have HI2 := hid (ints_one (w := w2.alloc (.cells #[.int .i64 b] 3)) (b := w2.heap.size) (n := b) (cell_new _ _ _ _ rfl) (size_new _ _ _ rfl))
      have hsz2 : w1.heap.size ≤ (w2.alloc (.cells #[.int .i64 b] 3)).heap.size := by have := hb2.size; simp only [World.size_alloc]; omega
      have HB2 := hid hb2
      clear HO1 HX1 hv' hb' hb2 hsz HB1
      go_wp2_with (at_builtin; refine wpList_append_ints rfl (.tmp 19) (.tmp 21) rfl w1.heap.size (.slice qa s1.length qc) rfl s1.length (intVals (ints s1)) HO2.out (by have := HLS.out.1; have := HLEN.out; omega) (.slice (some ⟨w2.heap.size, 0, none⟩) 1 1) [(b : Int)] rfl HI2.out (by simp) hsz2 ?_)
      intro v3 w3 hown3 hgr3
      have hb3 : Below w1.heap.size w1 w3 := own_grown (HB2.out.alloc (by have := HB2.out.size; omega) _) HO2.out hgr3 hsz2
      have hn3 : w3.ownsRow w1.heap.size 3 1 v3 (s1.length + 1) (intVals (ints (s1 ++ [b]))) := by rw [HAP.out, intVals_append]; exact hown3
      have HU3 := hid (intsAt_of_owns hn3 (by rw [ints_length, List.length_append]; have := HLS.out.1; have := HLEN.out; simp only [List.length_singleton]; omega))
      have HX3 := hid (HX2.out.below hb3)
      obtain ⟨ba, bc, rfl⟩ := own_slice hn3
      have h3 := h1.go hb3
      clear HO2 HI2 hown3 hgr3 hb3 hn3 hsz2 HX2 HB2
      go_wp2_with fail
      refine (HT.out w3).mono ?_
      rintro e w4 ⟨u, m, rfl, hu, hb4⟩
      have h4 := h3.go hb4
      obtain rfl : m = tl.length := by have := hu.1; rw [intVals_length, ints_length] at this; omega
      have HU4 := hid (intsAt_of_owns hu (by rw [ints_length]; have := HSL2.out; omega))
      have HA0 := hid (HU3.out.below hb4)
      have HC0 := hid (HX3.out.below hb4)
      obtain ⟨ua, un, rfl⟩ := own_slice hu
      have HE4 := hid h4.below
      clear HT hb4 hu HU3 HX3 h0 h1 h3
      go_wp2
      go_loopg [2, 3, 11] tl.length (fun gk u2 u3 kv wr => ∃ k : Nat, k + gk = tl.length ∧ kv = .int .i64 k ∧ IntsAt wr u2 (ints (T k).1) ∧ IntsAt wr u3 (ints (T k).2) ∧ Below w4.heap.size w4 wr)
      case atStart => exact ⟨0, by omega, rfl, by rw [HZ.out]; exact HA0.out, by rw [HZ.out]; exact HC0.out, Below.refl _ _⟩
      case round =>
        obtain ⟨k, hk, rfl, hu2, hu3, hbe⟩ := hrel
        have HK := hid hk
        have HBE := hid hbe
        by_cases hlt : k < tl.length
        · have HLT := hid hlt
          obtain ⟨b2, o2, rfl, _, c2⟩ := TyP.ints_at (HU4.out.below hbe) k (by rw [ints_length]; exact hlt)
          rw [nums_at hlt] at c2
          have hk1 : (k : Int) < (tl.length : Int) := by omega
          have hkb : k ≤ 9223372036854775806 := by have := HSL2.out; omega
          have HOKK := HOK.out k (by omega)
          have HCALL := hid (IH.out tl[k] (T k) _ _ _ wr (HL.out.below blkStays ((h4.go hbe).below)) (HSX.out _ (List.getElem_mem hlt)) hu2 hu3 HOKK.1 (by have h2 := HOKK.2; have := HF.out; simp only [List.length_append, List.length_singleton] at h2; omega))
          have hth := HNX.out k hlt
          obtain ⟨p2, d2, rfl, _⟩ := ints_slice hu2
          obtain ⟨p3, d3, rfl, _⟩ := ints_slice hu3
          have h5 := h4.go hbe
          clear hk hu2 hu3 hbe HOKK
          generalize tl[k] = c at *
          rw [← hth] at HCALL
          clear hth
          generalize (ints (T k).1).length = z1 at *
          generalize (ints (T k).2).length = z2 at *
          go_wp2_with fail
          refine HCALL.out.mono ?_
          rintro e w5 ⟨y1, y2, rfl, hy1, hy2, hb5⟩
          have HY1 := hid hy1
          have HY2 := hid hy2
          have HB5 := hid (HBE.out.trans (hb5.mono HBE.out.size))
          clear HCALL hy1 hy2 hb5
          go_wp2
          go_roundg (gk - 1)
          case measure => have := HK.out; have := HLT.out; omega
          case rel => exact ⟨k + 1, by have := HK.out; have := HLT.out; omega, by go_num, HY1.out, HY2.out, HB5.out⟩
        · obtain rfl : k = tl.length := by omega
          have HLT2 := hid (inv_len (HOK.out tl.length (Nat.le_refl _)).1)
          generalize T tl.length = Z at *
          obtain ⟨p2, d2, rfl, _⟩ := ints_slice hu2
          obtain ⟨p3, d3, rfl, _⟩ := ints_slice hu3
          have HV2 := hid hu2
          have HV3 := hid hu3
          have HAZ : Hid (ints (Z.2 ++ [b]) = ints Z.2 ++ [(b : Int)]) := ints_append _ _
          obtain ⟨z1, z2⟩ := Z
          simp only at *
          have hwr1 : Below wr.heap.size wr (wr.alloc (.cells #[] 3)) := alloc_below _ _
          have HO1 := hid (World.ownsRow_made (base := wr.heap.size) (e := 3) (size := 1) wr #[] 0 (Nat.le_refl _) (by decide) (by simp))
          have HX1 := hid (HV3.out.below hwr1)
          have HB1 := hid hwr1
          have hsz : wr.heap.size ≤ (wr.alloc (.cells #[] 3)).heap.size := by rw [World.size_alloc]; omega
          rw [ints_length] at HV2 HX1 ⊢
          rw [ints_length]
          clear hk hu2 hu3 HV3 hwr1
          go_wp2_with (at_builtin; refine wpList_clone_ints rfl (.tmp 47) (.tmp 48) rfl wr.heap.size (.slice (some ⟨wr.heap.size, 0, none⟩) 0 0) rfl HO1.out (.slice p3 z2.length d3) (ints z2) rfl HX1.out (by rw [ints_length]; have := HLT2.out.2; have := HLEN.out; omega) hsz ?_)
          intro v' m w6 hv' hb'
          have hb6 : Below wr.heap.size wr w6 := HB1.out.trans hb'
          obtain rfl : m = z2.length := by have := hv'.1; rw [intVals_length, ints_length] at this; omega
          obtain ⟨qa, qc, rfl⟩ := own_slice hv'
          have HO2 := hid (hv'.alloc (.cells #[.int .i64 b] 3))
          have HI2 := hid (ints_one (w := w6.alloc (.cells #[.int .i64 b] 3)) (b := w6.heap.size) (n := b) (cell_new _ _ _ _ rfl) (size_new _ _ _ rfl))
          have hsz2 : wr.heap.size ≤ (w6.alloc (.cells #[.int .i64 b] 3)).heap.size := by have := hb6.size; simp only [World.size_alloc]; omega
          have HB6 := hid hb6
          clear HO1 HX1 hv' hb' hb6 hsz HB1
          go_wp2_with (at_builtin; refine wpList_append_ints rfl (.tmp 49) (.tmp 51) rfl wr.heap.size (.slice qa z2.length qc) rfl z2.length (intVals (ints z2)) HO2.out (by have := HLT2.out.2; have := HLEN.out; omega) (.slice (some ⟨w6.heap.size, 0, none⟩) 1 1) [(b : Int)] rfl HI2.out (by simp) hsz2 ?_)
          intro v7 w7 hown7 hgr7
          have hb7 : Below wr.heap.size wr w7 := own_grown (HB6.out.alloc (by have := HB6.out.size; omega) _) HO2.out hgr7 hsz2
          have hn7 : w7.ownsRow wr.heap.size 3 1 v7 (z2.length + 1) (intVals (ints (z2 ++ [b]))) := by rw [HAZ.out, intVals_append]; exact hown7
          have HU7 := hid (intsAt_of_owns hn7 (by rw [ints_length, List.length_append]; have := HLT2.out.2; have := HLEN.out; simp only [List.length_singleton]; omega))
          have HX7 := hid (HV2.out.below hb7)
          have HB7 := hid (HE4.out.trans ((HBE.out.trans (hb7.mono HBE.out.size)).mono HE4.out.size))
          clear HO2 HI2 hown7 hgr7 hb7 hn7 hsz2
          go_wp2
          go_ret2
          exact ⟨_, _, rfl, HX7.out, HU7.out, HB7.out⟩
end Go.Proofs.YtimnjkdhcnhkoaaGreatDoor.FvF
namespace Go.Proofs.YtimnjkdhcnhkoaaGreatDoor.FvG
open Go.RowKit Go.Lib RwO SetP IntO TyM TyP TyB TyC TyRA ShM ShP ShA ShB ShC ShE ShRA ShH ShI ShJ ShRG ShRH ShRI Aft FwM FwC FwP FwQ FwR FvA FvB FvC FvP RwB FvD FvE FvF

/-- a list from behind, but the first g -/
def downN (d : List Nat) (g : Nat) : List Nat := d.reverse.take (d.length - g)
theorem downN_succ {d : List Nat} {j : Nat} (h : j < d.length) : downN d j = downN d (j + 1) ++ [d[j]] := by
  unfold downN
  have e : d.length - j = (d.length - (j + 1)) + 1 := by omega
  rw [e, List.take_succ_eq_append_getElem (by rw [List.length_reverse]; omega), List.getElem_reverse]
  congr 3
  omega
theorem downN_all (d : List Nat) : downN d 0 = d.reverse := by
  unfold downN
  rw [Nat.sub_zero, ← List.length_reverse, List.take_length]
theorem downN_none (d : List Nat) : downN d d.length = [] := by
  unfold downN
  rw [Nat.sub_self]
  rfl
theorem downN_len (d : List Nat) (g : Nat) : (downN d g).length ≤ d.length := by
  unfold downN
  rw [List.length_take]
  omega

set_option maxRecDepth 100000 in
set_option maxHeartbeats 8000000 in
theorem ordered_calls (l : List Bx) (v : Value) (w : World) (hl : BlksAt w v l) (hlow : Low l) (hn0 : 0 < l.length) (hlen : l.length ≤ 1000) :
    Calls Tryz.prog 21 #[v] w (LstR (ints (orderedL l)) w) := by
  have HC := hid (through_any l hlow hlen (l.length + 1) 0 ([], []) v (.slice none 0 0) (.slice none 0 0) w hl hn0 (ints_none w) (ints_none w) ⟨by simp, by simp, by simp, by simp⟩ (by simp))
  have hbl : (thr (succ l) (l.length + 1) 0 ([], [])).2.length ≤ 1000 := Nat.le_trans (inv_len (behind_res hn0 (succ_lt hlow)).inv).2 hlen
  have HOR : Hid (orderedL l = (thr (succ l) (l.length + 1) 0 ([], [])).2.reverse) := rfl
  have HL := hid hl
  obtain ⟨ao, cap, rfl, hll⟩ := hl.slice
  clear hl hlow hn0 hlen
  generalize thr (succ l) (l.length + 1) 0 ([], []) = z at *
  obtain ⟨z1, d⟩ := z
  simp only at *
  generalize orderedL l = ans at *
  have HBL := hid hbl
  go_enter Tryz.func21, Tryz.ntmps21
  go_wp2_with fail
  refine HC.out.mono ?_
  rintro e w1 ⟨u1, u2, rfl, hu1, hu2, hb1⟩
  have HB1 := hid hb1
  obtain ⟨p1, c1, rfl, _⟩ := ints_slice hu1
  obtain ⟨p2, c2, rfl, hl2⟩ := ints_slice hu2
  have HU2 := hid hu2
  generalize (ints z1).length = zl at *
  rw [ints_length] at HU2 hl2
  rw [ints_length]
  clear HC hu1 hu2 hb1
  have hd0 : (0 : Int) ≤ (d.length : Int) := by omega
  go_wp2
  go_loopg [5, 6] d.length (fun gk u i wr => gk ≤ d.length ∧ i = .int .i64 ((gk : Int) - 1) ∧ wr.ownsRow w1.heap.size 3 1 u (downN d gk).length (intVals (ints (downN d gk))) ∧ Below w1.heap.size w1 wr)
  case atStart => exact ⟨Nat.le_refl _, by go_num, by rw [downN_none]; exact World.ownsRow_nil _ _ _ _, Below.refl _ _⟩
  case round =>
    obtain ⟨hk, rfl, hown, hb⟩ := hrel
    have HK := hid hk
    have HLN := hid (downN_len d gk)
    have HOWN := hid hown
    have HB := hid hb
    obtain ⟨ua, un, rfl⟩ := own_slice hown
    cases gk with
    | succ j =>
      have hlt : j < d.length := by omega
      have HLT := hid hlt
      obtain ⟨b2, o2, rfl, _, q2⟩ := TyP.ints_at (HU2.out.below hb) j (by rw [ints_length]; exact hlt)
      rw [nums_at hlt] at q2
      have HA := hid (downN_succ hlt)
      have hj1 : (j : Int) < (d.length : Int) := by omega
      have he : ((j + 1 : Nat) : Int) - 1 = j := by omega
      rw [he]
      clear hk hown hb he
      generalize d[j] = c at *
      generalize downN d (j + 1) = up at *
      have HO3 := hid (HOWN.out.alloc (.cells #[.int .i64 c] 3))
      have HI3 := hid (ints_one (w := wr.alloc (.cells #[.int .i64 c] 3)) (b := wr.heap.size) (n := c) (cell_new _ _ _ _ rfl) (size_new _ _ _ rfl))
      have hsz : w1.heap.size ≤ (wr.alloc (.cells #[.int .i64 c] 3)).heap.size := by have := HB.out.size; simp only [World.size_alloc]; omega
      have hxs : up.length ≤ 100000 := by have := HLN.out; have := HBL.out; omega
      go_wp2_with (at_builtin; refine wpList_append_ints rfl (.tmp 19) (.tmp 24) rfl w1.heap.size (.slice ua up.length un) rfl up.length (intVals (ints up)) HO3.out hxs (.slice (some ⟨wr.heap.size, 0, none⟩) 1 1) [(c : Int)] rfl HI3.out (by simp) hsz ?_)
      intro v' w' hown' hgr
      have HB4 := hid (own_grown (HB.out.alloc (by have := HB.out.size; omega) _) HO3.out hgr hsz)
      have HNX : Hid (w'.ownsRow w1.heap.size 3 1 v' (up ++ [c]).length (intVals (ints (up ++ [c])))) := by
        show World.ownsRow _ _ _ _ _ _ _
        rw [ints_append, intVals_append, List.length_append]
        exact hown'
      obtain ⟨va, vn, rfl⟩ := own_slice hown'
      clear hown' hgr HI3 HO3 hsz
      go_wp2
      go_roundg j
      case measure => omega
      case rel => exact ⟨by have := HLT.out; omega, by go_num, by rw [HA.out]; have := HNX.out; rw [List.length_append] at this ⊢; exact this, HB4.out⟩
    | zero =>
      rw [downN_all, ← HOR.out] at HOWN HLN
      rw [downN_all, ← HOR.out]
      have HI := hid (intsAt_of_owns (l := ints ans) HOWN.out (by rw [ints_length]; have := HLN.out; have := HBL.out; omega))
      clear hk hown
      generalize ans.length = m at *
      go_wp2
      go_ret
      exact ⟨_, rfl, HI.out, HB1.out.trans (HB.out.mono HB1.out.size)⟩
end Go.Proofs.YtimnjkdhcnhkoaaGreatDoor.FvG
namespace Go.Proofs.YtimnjkdhcnhkoaaGreatDoor.FvH
open Go.RowKit Go.Lib RwO SetP IntO TyM TyP TyB TyC TyRA ShM ShP ShA ShB ShC ShE ShRA ShH ShI ShJ ShRG ShRH ShRI Aft FwM FwC FwP FwQ FwR FvA FvB FvC FvP RwB FvD FvE FvF FvG

set_option maxRecDepth 100000 in
set_option maxHeartbeats 8000000 in
theorem reach_calls (p : Px) (f : Int) (v : Value) (w : World) (hp : PrAt w v p) (hs : Small p) (hok : POk p) :
    Calls Tryz.prog 7 #[v, .int .i64 f] w (LstE (reachA p f) (findP p f) w) := by
  have hp0 := hp
  obtain ⟨vt, vf, rfl, ht, hf⟩ := hp
  obtain ⟨W, hW⟩ : ∃ W, W = w.alloc (.cells #[vt, vf] 25) := ⟨_, rfl⟩
  have hbW : Below w.heap.size w W := by rw [hW]; exact alloc_below _ _
  have k1 : W.heap[w.heap.size]? = some (.cells #[vt, vf] 25 (0, 0)) := by rw [hW]; exact alloc_new _ _
  have hpW := hp0.below hbW
  have HR := hid (asked_calls p f 0 _ W hpW hs hok)
  rw [ask_first] at HR
  have HFN := hid (fun (k : Nat) (x : Fx) (h1 : Has1 p f k x) => fn_later (hf.below fnStays hbW) h1)
  have HOK := hid hok
  obtain ⟨ta, tc, rfl⟩ := ht.slice
  obtain ⟨fa, fc, rfl, _⟩ := hf.slice
  have l0 := later_cells k1 0 _ rfl; have l1 := later_cells k1 1 _ rfl
  have HBW := hid hbW
  have HW := hid hW
  have h0 := Aft.refl W
  clear ht hf hpW hbW hW k1 hp0 hs hok
  by_cases hz : findP p f = 0
  rotate_left
  · have HN : Hid (reachA p f = []) := by show _ = _; unfold reachA; rw [if_neg hz]
    have e0 : (findP p f != 0) = true := by simpa using hz
    clear HFN hz HOK
    generalize reachA p f = na at *
    generalize findP p f = fe at *
    generalize p.types.length = n1 at *
    generalize p.funcs.length = n2 at *
    go_enter Tryz.func7, Tryz.ntmps7
    go_wp2_with fail
    rw [← HW.out]
    refine HR.out.mono ?_
    rintro e w1 ⟨rfl, hb1⟩
    have h1 := h0.go hb1
    clear HR hb1
    go_wp2
    go_ret2
    exact ⟨_, rfl, by rw [HN.out]; exact ints_none _, h1.out HBW.out⟩
  obtain ⟨hlow, hl0, hl16⟩ := low_fn HOK.out hz
  obtain ⟨k, x, h1⟩ := has1 hz
  have HN : Hid (reachA p f = ints (reachedL x.blocks)) := by show _ = _; unfold reachA; rw [if_pos hz, fn_blocks h1]
  rw [fn_blocks h1] at hlow hl0 hl16
  obtain ⟨fb, foff, fcap, ao, bc, he, d0, d1, hbl⟩ := HFN.out k x h1
  cases he
  have HC := hid (fun wx (h : Aft W wx) => reached_calls x.blocks _ wx (hbl.below blkStays h.below) hlow hl0 (by omega))
  rw [hz] at HR ⊢
  have hke := h1.eq
  have hkl := h1.lt
  clear HFN hz h1 hbl hlow hl0 hl16 HOK
  subst hke
  generalize reachA p (k : Int) = na at *
  obtain ⟨sg, bl⟩ := x
  simp only at *
  generalize ints (reachedL bl) = tl at *
  generalize p.types.length = n1 at *
  generalize p.funcs.length = n2 at *
  generalize bl.length = n3 at *
  go_enter Tryz.func7, Tryz.ntmps7
  go_wp2_with fail
  rw [← HW.out]
  refine HR.out.mono ?_
  rintro e w1 ⟨rfl, hb1⟩
  have h1 := h0.go hb1
  have HC1 := hid (HC.out w1 h1)
  clear HR hb1 HC
  go_wp2_with fail
  refine HC1.out.mono ?_
  rintro e w2 ⟨u, rfl, hu, hb2⟩
  have h2 := h1.go hb2
  have HU := hid hu
  clear HC1 hb2 hu
  go_wp2
  go_ret2
  exact ⟨_, rfl, by rw [HN.out]; exact HU.out, h2.out HBW.out⟩

set_option maxRecDepth 100000 in
set_option maxHeartbeats 8000000 in
theorem order_calls (p : Px) (f : Int) (v : Value) (w : World) (hp : PrAt w v p) (hs : Small p) (hok : POk p) :
    Calls Tryz.prog 9 #[v, .int .i64 f] w (LstE (orderA p f) (findP p f) w) := by
  have hp0 := hp
  obtain ⟨vt, vf, rfl, ht, hf⟩ := hp
  obtain ⟨W, hW⟩ : ∃ W, W = w.alloc (.cells #[vt, vf] 25) := ⟨_, rfl⟩
  have hbW : Below w.heap.size w W := by rw [hW]; exact alloc_below _ _
  have k1 : W.heap[w.heap.size]? = some (.cells #[vt, vf] 25 (0, 0)) := by rw [hW]; exact alloc_new _ _
  have hpW := hp0.below hbW
  have HR := hid (asked_calls p f 0 _ W hpW hs hok)
  rw [ask_first] at HR
  have HFN := hid (fun (k : Nat) (x : Fx) (h1 : Has1 p f k x) => fn_later (hf.below fnStays hbW) h1)
  have HOK := hid hok
  obtain ⟨ta, tc, rfl⟩ := ht.slice
  obtain ⟨fa, fc, rfl, _⟩ := hf.slice
  have l0 := later_cells k1 0 _ rfl; have l1 := later_cells k1 1 _ rfl
  have HBW := hid hbW
  have HW := hid hW
  have h0 := Aft.refl W
  clear ht hf hpW hbW hW k1 hp0 hs hok
  by_cases hz : findP p f = 0
  rotate_left
  · have HN : Hid (orderA p f = []) := by show _ = _; unfold orderA; rw [if_neg hz]
    have e0 : (findP p f != 0) = true := by simpa using hz
    clear HFN hz HOK
    generalize orderA p f = na at *
    generalize findP p f = fe at *
    generalize p.types.length = n1 at *
    generalize p.funcs.length = n2 at *
    go_enter Tryz.func9, Tryz.ntmps9
    go_wp2_with fail
    rw [← HW.out]
    refine HR.out.mono ?_
    rintro e w1 ⟨rfl, hb1⟩
    have h1 := h0.go hb1
    clear HR hb1
    go_wp2
    go_ret2
    exact ⟨_, rfl, by rw [HN.out]; exact ints_none _, h1.out HBW.out⟩
  obtain ⟨hlow, hl0, hl16⟩ := low_fn HOK.out hz
  obtain ⟨k, x, h1⟩ := has1 hz
  have HN : Hid (orderA p f = ints (orderedL x.blocks)) := by show _ = _; unfold orderA; rw [if_pos hz, fn_blocks h1]
  rw [fn_blocks h1] at hlow hl0 hl16
  obtain ⟨fb, foff, fcap, ao, bc, he, d0, d1, hbl⟩ := HFN.out k x h1
  cases he
  have HC := hid (fun wx (h : Aft W wx) => ordered_calls x.blocks _ wx (hbl.below blkStays h.below) hlow hl0 (by omega))
  rw [hz] at HR ⊢
  have hke := h1.eq
  have hkl := h1.lt
  clear HFN hz h1 hbl hlow hl0 hl16 HOK
  subst hke
  generalize orderA p (k : Int) = na at *
  obtain ⟨sg, bl⟩ := x
  simp only at *
  generalize ints (orderedL bl) = tl at *
  generalize p.types.length = n1 at *
  generalize p.funcs.length = n2 at *
  generalize bl.length = n3 at *
  go_enter Tryz.func9, Tryz.ntmps9
  go_wp2_with fail
  rw [← HW.out]
  refine HR.out.mono ?_
  rintro e w1 ⟨rfl, hb1⟩
  have h1 := h0.go hb1
  have HC1 := hid (HC.out w1 h1)
  clear HR hb1 HC
  go_wp2_with fail
  refine HC1.out.mono ?_
  rintro e w2 ⟨u, rfl, hu, hb2⟩
  have h2 := h1.go hb2
  have HU := hid hu
  clear HC1 hb2 hu
  go_wp2
  go_ret2
  exact ⟨_, rfl, by rw [HN.out]; exact HU.out, h2.out HBW.out⟩

end Go.Proofs.YtimnjkdhcnhkoaaGreatDoor.FvH
