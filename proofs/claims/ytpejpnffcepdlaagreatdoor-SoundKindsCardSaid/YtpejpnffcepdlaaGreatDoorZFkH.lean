/- slices.Sort of a row of numbers; a walk over flow.Reach. -/
import Derived.Test.YtpejpnffcepdlaaGreatDoorZBlkGToFeP
import Derived.Test.YtpejpnffcepdlaaGreatDoorZShelf
import Derived.Lib.SortBridge
namespace Go.Proofs.YtpejpnffcepdlaaGreatDoor.FkH
open Go.RowKit Go.Lib Go.Shelf SetP IntO TyM TyP TyB ShM ShP ShA ShB ShE ShH ShI ShJ Aft Fresh FwM FwC FwP FwQ FwR FwO FwK FkP FkN FkS FkW

theorem below_setCells {B g : Nat} (hg : B ≤ g) : ∀ (vs : List Value) (o : Nat) {w w1 : World}, Below B w w1 → Below B w (w1.setCells g o vs)
 | [], _, _, _, h => h
 | u :: r, o, _, _, h => below_setCells hg r (o + 1) (h.setCell (p := ⟨g, o, none⟩) hg u)
theorem below_drewN {B : Nat} {w w1 : World} (h : Below B w w1) : ∀ n, Below B w (w1.drewN n)
 | 0 => h
 | n + 1 => (below_drewN h n).drew
theorem below_grow {B : Nat} {w w1 : World} (h : Below B w w1) (hB : B ≤ w1.heap.size) (os : Array Obj) : Below B w (Go.Sort.grow w1 os) :=
 ⟨h.os, h.tape, h.output, Nat.le_trans h.size (by simp [Go.Sort.grow]), fun k hk => (Go.Sort.heap_grow_old w1 os (by omega)).trans (h.block k hk)⟩
/-- the sorted list -/
def srt (l : List Int) : List Int := l.mergeSort fun x y => decide (x ≤ y)
theorem srt_length (l : List Int) : (srt l).length = l.length := by unfold srt; exact List.length_mergeSort l
/-- slices.Sort of a row that the call owns -/
def SrtR (B : Nat) (v : Value) (l : List Int) (w : World) (e : Ending) (w' : World) : Prop := e = .returned (.tuple #[]) ∧ NewI B w' v (srt l) ∧ Below B w w'
theorem sort_calls (B : Nat) (v : Value) (l : List Int) (w : World) (h : w.ownsRow B 3 1 v l.length (intVals l)) (hl : l.length ≤ 1000) (hB : B ≤ w.heap.size) :
  Calls Tryz.prog 160 #[v] w (SrtR B v l w) := by
 have hi := intsAt_of_owns h (by omega)
 have hnew := newI_of h (by omega)
 by_cases h0 : 0 < l.length
 ·rcases h.2 with ⟨_, hn⟩ | ⟨g, cap, cur, rfl, hg, hh, hnc, hcm, hcs, htk⟩
  ·omega
  have hc : ∀ j, j < l.length → w.cell? ⟨g, 0 + j, none⟩ = some (.int .i64 (l.getD j 0)) := by
   intro j hj
   obtain ⟨b3, o3, he3, _, hc3⟩ := TyP.ints_at hi j hj
   cases he3
   rw [hc3, List.getD_eq_getElem?_getD, List.getElem?_eq_getElem hj]
   rfl
  have hf : ∀ j, j < l.length → w.frozen? ⟨g, 0 + j, none⟩ = false := by
   intro j hj
   unfold World.frozen?
   rw [hh]
   simp
  have hH := holds_of_ints (Nat.le_refl l.length) hc hf
  rw [List.take_length] at hH
  have hglt : g < w.heap.size := (Array.getElem?_eq_some_iff.1 hh).1
  refine (Tryz.slices_Sort_int g 0 cap l w hH hglt (by omega)).mono ?_
  rintro e w' ⟨rfl, n, os, rfl⟩
  have hw := sorted_world _ w g 0 n _ (srt l) os hH (by simp [srt_length])
  unfold srt at hw
  rw [hw]
  have hls : (srt l).length = l.length := srt_length l
  have hcell := cells_sorted_ints (os := os) (q := n) (Nat.le_refl l.length) hls hc
  rw [List.drop_length, List.append_nil] at hcell
  have hbel : Below B w (Go.Sort.grow ((w.drewN n).setCells g 0 ((srt l).map (Value.int .i64))) os) := by
   have h1 := below_setCells hg ((srt l).map (Value.int .i64)) 0 (below_drewN (Below.refl B w) n)
   exact below_grow h1 (Nat.le_trans hB h1.size) os
  have hgl : g < (Go.Sort.grow ((w.drewN n).setCells g 0 ((srt l).map (Value.int .i64))) os).heap.size := Nat.lt_of_lt_of_le hglt hbel.size
  refine ⟨rfl, ⟨⟨some ⟨g, 0, none⟩, cap, by rw [hls], by omega, fun _ => ⟨g, 0, rfl, hgl, fun i hi => ?_⟩, (fun h => by cases h), by omega⟩, hnew.2⟩, hbel⟩
  have := hcell i hi
  rw [List.getD_eq_getElem?_getD, List.getElem?_eq_getElem hi] at this
  exact this
 ·have e0 : l = [] := List.eq_nil_of_length_eq_zero (by omega)
  subst e0
  obtain ⟨a, c, rfl⟩ := own_slice h
  refine (Tryz.slices_Sort_int_none a c w).mono ?_
  rintro e w' ⟨rfl, rfl⟩
  have e1 : srt [] = [] := by simp [srt]
  exact ⟨rfl, by rw [e1]; exact hnew, Below.refl _ _⟩
/-! Reach -/
set_option maxRecDepth 100000 in
set_option maxHeartbeats 8000000 in
theorem reach_c : ReachC := by
 intro p f v w hp htab hs hok _
 have hp0 := hp
 obtain ⟨vt, vf, rfl, ht, hf⟩ := hp
 obtain ⟨W, hW⟩ : ∃ W, W = w.alloc (.cells #[vt, vf] 27) := ⟨_, rfl⟩
 have hbW : Below w.heap.size w W := by rw [hW]; exact alloc_below _ _
 have k1 : W.heap[w.heap.size]? = some (.cells #[vt, vf] 27 (0, 0)) := by rw [hW]; exact alloc_new _ _
 have hpW := hp0.below hbW
 have HRY := hid (fun hz => find_yes p f 0 _ W hpW (htab.on hbW) hs hok hz)
 have HR := hid (find_no p f 0 _ W hpW (htab.on hbW) hs hok)
 rw [ask_first] at HR HRY
 obtain ⟨ta, tc, rfl⟩ := ht.slice
 obtain ⟨fa, fc, rfl, _⟩ := hf.slice
 have l0 := later_cells k1 0 _ rfl; have l1 := later_cells k1 1 _ rfl
 have HBW := hid hbW
 have HW := hid hW
 have h0 := Aft.refl W
 have HOK := hid hok
 clear ht hf hpW hbW hW k1 hp0 hs hok htab
 by_cases hz : findP p f = 0
 rotate_left
 ·have HN : Hid (reachA p f = []) := by show _ = _; unfold reachA; rw [if_neg hz]
  have e0 : (findP p f != 0) = true := by simpa using hz
  clear hz HRY
  generalize reachA p f = na at *
  generalize findP p f = fe at *
  generalize p.types.length = n1 at *
  generalize p.funcs.length = n2 at *
  go_enter Tryz.func115, Tryz.ntmps115
  go_wp2_with fail
  rw [← HW.out]
  refine HR.out.mono ?_
  rintro e w1 ⟨ao, n, c, rfl, hb1⟩
  have h1 := h0.go hb1
  clear HR hb1
  go_wp2
  go_ret2
  exact ⟨_, rfl, by rw [HN.out]; exact newI_none _ _, h1.out HBW.out⟩
 obtain ⟨hlow, hl0, hl16⟩ := low_fn HOK.out hz
 have HKD := hid (kinds_fn HOK.out hz)
 have hc0 : ∀ c ∈ [0], c < (blsP p f).length := fun c hc => by rw [List.mem_singleton.1 hc]; exact hl0
 have HBH := hid (fun (vb u : Value) (w2 : World) (h1 : BlksAt w2 vb (blsP p f)) (h2 : IntsAt w2 u (ints [0])) => behind_calls (blsP p f) [0] vb u w2 hlow HKD.out (by omega) h1 hc0 (by simp) h2)
 have HBL := hid (Nat.le_trans (behind_len hlow hc0) hl16)
 have HN : Hid (reachA p f = srt (ints (behindL (blsP p f) [0]))) := by show _ = _; unfold reachA srt; rw [if_pos hz, behind_reach hlow hl0]
 have HR1 := hid (HRY.out hz)
 rw [hz]
 clear HR HRY hz HKD hlow hl16 hl0 hc0
 generalize reachA p f = na at *
 generalize blsP p f = bl at *
 generalize p.types.length = n1 at *
 generalize p.funcs.length = n2 at *
 go_enter Tryz.func115, Tryz.ntmps115
 go_wp2_with fail
 rw [← HW.out]
 refine HR1.out.mono ?_
 rintro e w1 ⟨ao, c, rfl, hbl1, hb1⟩
 have h1 := h0.go hb1
 have hb2 := alloc_below w1 (.cells #[.int .i64 0] 3)
 have h2 := h1.go hb2
 have HC := hid (HBH.out _ _ _ (hbl1.below blkStays hb2) (ints_lit w1 (ints [0]) 1 #[.int .i64 0] rfl rfl (by simp [ints])))
 have HB2 := hid hb2
 clear HR1 hb1 hbl1 HBH hb2
 generalize behindL bl [0] = bh at *
 generalize bl.length = n at *
 go_wp2_with fail
 refine HC.out.mono ?_
 rintro e w3 ⟨u3, rfl, hu3, hb3⟩
 have h3 := h2.go hb3
 have hw13 : W.heap.size ≤ w3.heap.size := h3.size
 have HC3 := hid (sort_calls W.heap.size u3 (ints bh) w3 (by rw [ints_length]; exact owns_base hu3 h2.size) (by rw [ints_length]; have := HBL.out; omega) hw13)
 have HH3 := hid h3
 clear HC hb3 hu3 h1 h2 h3 hw13
 go_wp2_with fail
 refine HC3.out.mono ?_
 rintro e w4 ⟨rfl, hn4, hb4⟩
 have HE := hid (Aft.out (HH3.out.below.trans hb4 : Aft W w4) HBW.out)
 have HU := hid (newI_base hn4 HBW.out.size)
 clear HC3 hn4 hb4
 go_wp2
 go_ret2
 exact ⟨_, rfl, by rw [HN.out]; exact HU.out, HE.out⟩

end Go.Proofs.YtpejpnffcepdlaaGreatDoor.FkH
