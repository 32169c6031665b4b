/- Walks over flow.Next, flow.Round. Walk over flow.Preds. -/
import Derived.Test.YtimnjkdhcnhkoaaDoorZFvPToFkW
import Derived.Test.YtimnjkdhcnhkoaaDoorZShelf
import Derived.Test.YtimnjkdhcnhkoaaDoorZShRMgToFvHB
namespace Go.Proofs.YtimnjkdhcnhkoaaDoor.FkX
open Go.RowKit Go.Lib SetP IntO TyM TyP TyB ShM ShP ShA ShB ShE ShH ShI ShJ Aft Fresh FwM FwC FwP FwQ FwR FwO FwK FkP FkN FkS FkW

/-- slices.Contains, of whatever list lies in memory -/
theorem contains_calls (v : Value) (l : List Int) (x : Int) (w : World) (h : IntsAt w v l) : Calls Tryd.prog 28 #[v, .int .i64 x] w fun e w' => e = .returned (.bool (l.contains x)) ∧ w = w' := by
  obtain ⟨ao, cap, rfl, hl, hm, hz⟩ := h
  by_cases h0 : 0 < l.length
  · obtain ⟨b, off, rfl, hlt, hc⟩ := hm h0
    refine (Tryd.slices_Contains_int b off l.length cap l x w (Nat.le_refl _) hl (fun j hj => ?_)).mono ?_
    · rw [hc j hj, List.getD_eq_getElem?_getD, List.getElem?_eq_getElem hj]
      rfl
    · rintro e w' ⟨rfl, rfl⟩
      exact ⟨by rw [List.take_length], rfl⟩
  · have e0 : l = [] := List.eq_nil_of_length_eq_zero (by omega)
    subst e0
    refine (Tryd.slices_Contains_int_empty ao cap x w).mono ?_
    rintro e w' ⟨rfl, rfl⟩
    exact ⟨rfl, rfl⟩

set_option maxRecDepth 100000 in
set_option maxHeartbeats 8000000 in
theorem next_c : NextC := by
  intro p f b v w hp htab hs hok _ _
  have hp0 := hp
  obtain ⟨vt, vf, rfl, ht, hf⟩ := hp
  obtain ⟨W, hW⟩ : ∃ W, W = w.alloc (.cells #[vt, vf] 25) := ⟨_, rfl⟩
  have hbW : Below w.heap.size w W := by rw [hW]; exact alloc_below _ _
  have k1 : W.heap[w.heap.size]? = some (.cells #[vt, vf] 25 (0, 0)) := by rw [hW]; exact alloc_new _ _
  have hpW := hp0.below hbW
  have HRY := hid (fun hz => find_yes p f b _ W hpW (htab.on hbW) hs hok hz)
  have HR := hid (find_no p f b _ W hpW (htab.on hbW) hs hok)
  obtain ⟨ta, tc, rfl⟩ := ht.slice
  obtain ⟨fa, fc, rfl, _⟩ := hf.slice
  have l0 := later_cells k1 0 _ rfl; have l1 := later_cells k1 1 _ rfl
  have HBW := hid hbW
  have HW := hid hW
  have h0 := Aft.refl W
  have HOK := hid hok
  clear ht hf hpW hbW hW k1 hp0 hs hok htab
  by_cases hz : askB p f b = 0
  rotate_left
  · have HN : Hid (nextA p f b = []) := by show _ = _; unfold nextA; rw [if_neg hz]
    have e0 : (askB p f b != 0) = true := by simpa using hz
    clear hz HRY
    generalize nextA p f b = na at *
    generalize askB p f b = fe at *
    generalize p.types.length = n1 at *
    generalize p.funcs.length = n2 at *
    go_enter Tryd.func9, Tryd.ntmps9
    go_wp2_with fail
    rw [← HW.out]
    refine HR.out.mono ?_
    rintro e w1 ⟨ao, n, c, rfl, hb1⟩
    have h1 := h0.go hb1
    clear HR hb1
    go_wp2
    go_ret2
    exact ⟨_, rfl, by rw [HN.out]; exact newI_none _ _, h1.out HBW.out⟩
  obtain ⟨hz1, b0, b1⟩ := ask_zero hz
  have HN : Hid (nextA p f b = toE (endAt (blsP p f) b.toNat)) := by show _ = _; unfold nextA; rw [if_pos hz]
  have HKD := hid (kinds_fn HOK.out hz1)
  obtain ⟨j, hj⟩ : ∃ j : Nat, b = j := ⟨b.toNat, by omega⟩
  subst hj
  rw [Int.toNat_natCast] at HN
  have hjl : j < (blsP p f).length := by omega
  have HNX := hid (fun (ia : Option Addr) (im ic : Nat) (w1 : World) => next_to (endAt (blsP p f) j) ia im ic w1 (HKD.out j hjl))
  have HR1 := hid (HRY.out hz)
  rw [hz]
  clear HR HRY hz hz1 b0 b1 HKD
  generalize nextA p f (j : Int) = na at *
  generalize blsP p f = bl at *
  generalize p.types.length = n1 at *
  generalize p.funcs.length = n2 at *
  go_enter Tryd.func9, Tryd.ntmps9
  go_wp2_with fail
  rw [← HW.out]
  refine HR1.out.mono ?_
  rintro e w1 ⟨ao, c, rfl, hbl1, hb1⟩
  have h1 := h0.go hb1
  obtain ⟨g, off, ia, im, ic, rfl, c0, c1, c2, c3, c4⟩ := blk_cells hbl1 hjl
  have hjn : (j : Int) < (bl.length : Int) := by omega
  have HS := hid h1.size
  clear HR1 hb1 hbl1
  generalize toE (endAt bl j) = tx at *
  generalize endAt bl j = x at *
  obtain ⟨ek, ea, et, ee⟩ := x
  simp only at *
  generalize bl.length = n at *
  go_wp2_with fail
  refine (HNX.out ia im ic w1).mono ?_
  rintro e w2 ⟨u, rfl, hu, hb2⟩
  have HE := hid ((h1.go hb2).out HBW.out)
  have HU := hid (newI_base hu (Nat.le_trans HBW.out.size HS.out))
  clear HNX hb2 hu c0 c1 c2 c3 c4
  go_wp2
  go_ret2
  exact ⟨_, rfl, by rw [HN.out]; exact HU.out, HE.out⟩
/-! Round -/
set_option maxRecDepth 100000 in
set_option maxHeartbeats 8000000 in
theorem round_c : RoundC := by
  intro p f b v w hp htab hs hok _ _
  have hp0 := hp
  obtain ⟨vt, vf, rfl, ht, hf⟩ := hp
  obtain ⟨W, hW⟩ : ∃ W, W = w.alloc (.cells #[vt, vf] 25) := ⟨_, rfl⟩
  have hbW : Below w.heap.size w W := by rw [hW]; exact alloc_below _ _
  have k1 : W.heap[w.heap.size]? = some (.cells #[vt, vf] 25 (0, 0)) := by rw [hW]; exact alloc_new _ _
  have hpW := hp0.below hbW
  have HRY := hid (fun hz => find_yes p f b _ W hpW (htab.on hbW) hs hok hz)
  have HR := hid (find_no p f b _ W hpW (htab.on hbW) hs hok)
  obtain ⟨ta, tc, rfl⟩ := ht.slice
  obtain ⟨fa, fc, rfl, _⟩ := hf.slice
  have l0 := later_cells k1 0 _ rfl; have l1 := later_cells k1 1 _ rfl
  have HBW := hid hbW
  have HW := hid hW
  have h0 := Aft.refl W
  have HOK := hid hok
  clear ht hf hpW hbW hW k1 hp0 hs hok htab
  by_cases hz : askB p f b = 0
  rotate_left
  · have HN : Hid (roundA p f b = false) := by show _ = _; unfold roundA; rw [if_neg hz]
    have e0 : (askB p f b != 0) = true := by simpa using hz
    clear hz HRY
    generalize roundA p f b = na at *
    generalize askB p f b = fe at *
    generalize p.types.length = n1 at *
    generalize p.funcs.length = n2 at *
    go_enter Tryd.func11, Tryd.ntmps11
    go_wp2_with fail
    rw [← HW.out]
    refine HR.out.mono ?_
    rintro e w1 ⟨ao, n, c, rfl, hb1⟩
    have h1 := h0.go hb1
    clear HR hb1
    go_wp2
    go_ret2
    exact ⟨by rw [HN.out]; rfl, h1.out HBW.out⟩
  obtain ⟨hz1, b0, b1⟩ := ask_zero hz
  have HN : Hid (roundA p f b = roundsL (blsP p f) b.toNat) := by show _ = _; unfold roundA; rw [if_pos hz]
  have HKD := hid (kinds_fn HOK.out hz1)
  obtain ⟨hlow, _, hl16⟩ := low_fn HOK.out hz1
  obtain ⟨j, hj⟩ : ∃ j : Nat, b = j := ⟨b.toNat, by omega⟩
  subst hj
  rw [Int.toNat_natCast] at HN
  have hjl : j < (blsP p f).length := by omega
  have HNX := hid (fun (ia : Option Addr) (im ic : Nat) (w1 : World) => next_to (endAt (blsP p f) j) ia im ic w1 (HKD.out j hjl))
  have HIS := hid (ints_succ hlow hjl)
  have HBH := hid (fun (vb u : Value) (w2 : World) (h1 : BlksAt w2 vb (blsP p f)) (h2 : IntsAt w2 u (ints (succ (blsP p f) j))) => behind_calls (blsP p f) (succ (blsP p f) j) vb u w2 hlow HKD.out (by omega) h1 (succ_lt hlow j hjl) (by have := succ_len (blsP p f) j; omega) h2)
  have HBL := hid (behind_len hlow (succ_lt hlow j hjl))
  have HBR : Hid ((ints (behindL (blsP p f) (succ (blsP p f) j))).contains (j : Int) = roundsL (blsP p f) j) := by
    show _ = _
    rw [← behind_rounds hlow hjl, Bool.eq_iff_iff, List.contains_iff_mem, List.contains_iff_mem]
    exact ints_mem
  have HR1 := hid (HRY.out hz)
  have HL16 := hid hl16
  rw [hz]
  clear HR HRY hz hz1 b0 b1 HKD hlow hl16
  generalize roundA p f (j : Int) = na at *
  generalize blsP p f = bl at *
  generalize p.types.length = n1 at *
  generalize p.funcs.length = n2 at *
  go_enter Tryd.func11, Tryd.ntmps11
  go_wp2_with fail
  rw [← HW.out]
  refine HR1.out.mono ?_
  rintro e w1 ⟨ao, c, rfl, hbl1, hb1⟩
  have h1 := h0.go hb1
  obtain ⟨g, off, ia, im, ic, rfl, c0, c1, c2, c3, c4⟩ := blk_cells hbl1 hjl
  have hjn : (j : Int) < (bl.length : Int) := by omega
  have HBB := hid hbl1
  have HL2 := hid (Nat.le_trans HBL.out HL16.out)
  clear HR1 hb1 hbl1 HBL
  generalize roundsL bl j = rb at *
  generalize behindL bl (succ bl j) = bh at *
  generalize succ bl j = tl at *
  generalize toE (endAt bl j) = tx at *
  generalize endAt bl j = x at *
  obtain ⟨ek, ea, et, ee⟩ := x
  simp only at *
  generalize bl.length = n at *
  go_wp2_with fail
  refine (HNX.out ia im ic w1).mono ?_
  rintro e w2 ⟨u, rfl, hu, hb2⟩
  have h2 := h1.go hb2
  rw [← HIS.out] at hu
  have HC := hid (HBH.out _ u w2 (HBB.out.below blkStays hb2) hu.1)
  clear HNX hb2 hu c0 c1 c2 c3 c4 HBH HBB
  go_wp2_with fail
  refine HC.out.mono ?_
  rintro e w3 ⟨u3, rfl, hu3, hb3⟩
  have h3 := h2.go hb3
  have HC3 := hid (contains_calls u3 (ints bh) (j : Int) w3 (intsAt_of_owns hu3 (by rw [ints_length]; have := HL2.out; omega)))
  rw [HBR.out] at HC3
  clear HC hb3 hu3
  go_wp2_with fail
  refine HC3.out.mono ?_
  rintro e w4 ⟨rfl, rfl⟩
  have HE := hid (h3.out HBW.out)
  clear HC3
  go_wp2
  go_ret2
  exact ⟨by rw [HN.out]; rfl, HE.out⟩

end Go.Proofs.YtimnjkdhcnhkoaaDoor.FkX
namespace Go.Proofs.YtimnjkdhcnhkoaaDoor.FkV
open Go.RowKit Go.Lib SetP IntO TyM TyP TyB ShM ShP ShA ShB ShE ShH ShI ShJ Aft Fresh FwM FwC FwP FwQ FwR FwO FwK FvC FkP FkN FkS FkW FkX

/-! Preds -/
set_option maxRecDepth 100000 in
set_option maxHeartbeats 8000000 in
theorem preds_c : PredsC := by
  intro p f b v w hp htab hs hok _ _
  have hp0 := hp
  obtain ⟨vt, vf, rfl, ht, hf⟩ := hp
  obtain ⟨W, hW⟩ : ∃ W, W = w.alloc (.cells #[vt, vf] 25) := ⟨_, rfl⟩
  have hbW : Below w.heap.size w W := by rw [hW]; exact alloc_below _ _
  have k1 : W.heap[w.heap.size]? = some (.cells #[vt, vf] 25 (0, 0)) := by rw [hW]; exact alloc_new _ _
  have hpW := hp0.below hbW
  have HRY := hid (fun hz => find_yes p f b _ W hpW (htab.on hbW) hs hok hz)
  have HR := hid (find_no p f b _ W hpW (htab.on hbW) hs hok)
  obtain ⟨ta, tc, rfl⟩ := ht.slice
  obtain ⟨fa, fc, rfl, _⟩ := hf.slice
  have l0 := later_cells k1 0 _ rfl; have l1 := later_cells k1 1 _ rfl
  have HBW := hid hbW
  have HW := hid hW
  have h0 := Aft.refl W
  have HOK := hid hok
  clear ht hf hpW hbW hW k1 hp0 hs hok htab
  by_cases hz : askB p f b = 0
  rotate_left
  · have HN : Hid (predsA p f b = []) := by show _ = _; unfold predsA; rw [if_neg hz]
    have e0 : (askB p f b != 0) = true := by simpa using hz
    clear hz HRY
    generalize predsA p f b = na at *
    generalize askB p f b = fe at *
    generalize p.types.length = n1 at *
    generalize p.funcs.length = n2 at *
    go_enter Tryd.func18, Tryd.ntmps18
    go_wp2_with fail
    rw [← HW.out]
    refine HR.out.mono ?_
    rintro e w1 ⟨ao, n, c, rfl, hb1⟩
    have h1 := h0.go hb1
    clear HR hb1
    go_wp2
    go_ret2
    exact ⟨_, rfl, by rw [HN.out]; exact newI_none _ _, h1.out HBW.out⟩
  obtain ⟨hz1, b0, b1⟩ := ask_zero hz
  have HN : Hid (predsA p f b = ints (aheadL (blsP p f) b.toNat)) := by show _ = _; unfold predsA; rw [if_pos hz]
  have HKD := hid (kinds_fn HOK.out hz1)
  obtain ⟨hlow, _, hl16⟩ := low_fn HOK.out hz1
  obtain ⟨j, hj⟩ : ∃ j : Nat, b = j := ⟨b.toNat, by omega⟩
  subst hj
  rw [Int.toNat_natCast] at HN
  have HNX := hid (fun (k : Nat) (hk : k < (blsP p f).length) (ia : Option Addr) (im ic : Nat) (w1 : World) => next_to (endAt (blsP p f) k) ia im ic w1 (HKD.out k hk))
  have HIS := hid (fun (k : Nat) (hk : k < (blsP p f).length) => ints_succ hlow hk)
  have HCT := hid (fun (k : Nat) => show (ints (succ (blsP p f) k)).contains (j : Int) = decide (j ∈ succ (blsP p f) k) by
    rw [Bool.eq_iff_iff, List.contains_iff_mem, decide_eq_true_iff]; exact ints_mem)
  have HR1 := hid (HRY.out hz)
  have HL16 := hid hl16
  rw [hz]
  clear HR HRY hz hz1 b0 b1 HKD hlow hl16
  generalize predsA p f (j : Int) = na at *
  generalize blsP p f = bl at *
  generalize p.types.length = n1 at *
  generalize p.funcs.length = n2 at *
  go_enter Tryd.func18, Tryd.ntmps18
  go_wp2_with fail
  rw [← HW.out]
  refine HR1.out.mono ?_
  rintro e w1 ⟨ao, c, rfl, hbl1, hb1⟩
  have h1 := h0.go hb1
  have HBB := hid hbl1
  have HH1 := hid h1
  clear HR1 hb1 hbl1 l0 l1 h0 h1
  go_wp2_with fail
  go_loopg [10, 24] bl.length (fun gk u i wr => ∃ k : Nat, k + gk = bl.length ∧ i = .int .i64 k ∧ wr.ownsRow w1.heap.size 3 1 u (aheadN bl j k).length (intVals (ints (aheadN bl j k))) ∧ Aft w1 wr)
  case atStart => exact ⟨0, by omega, rfl, World.ownsRow_nil _ _ _ _, Aft.refl _⟩
  case round =>
    obtain ⟨k, hk, rfl, hown, hA⟩ := hrel
    have HK := hid hk
    have HOWN := hid hown
    have HA := hid hA
    obtain ⟨ua, uc, rfl⟩ := own_slice hown
    clear hk hown
    by_cases hlt : k < bl.length
    · have HLT := hid hlt
      have hkl : (k : Int) < (bl.length : Int) := by omega
      have hkb : k ≤ 9223372036854775806 := by have := HL16.out; omega
      obtain ⟨g, off, ia, im, ic, rfl, c0, c1, c2, c3, c4⟩ := blk_cells (HBB.out.below blkStays hA.below) hlt
      have HNK := hid (fun wx => HNX.out k hlt ia im ic wx)
      have HISK := hid (HIS.out k hlt)
      have HCTK := hid (HCT.out k)
      have HLN := hid (aheadN_len bl j k)
      have HYES := hid (aheadN_yes (l := bl) (b := j) (k := k))
      have HNO := hid (aheadN_no (l := bl) (b := j) (k := k))
      have HSL := hid (succ_len bl k)
      clear HNX HIS HCT hA
      generalize succ bl k = tl at *
      generalize toE (endAt bl k) = tx at *
      generalize endAt bl k = x at *
      obtain ⟨ek, ea, et, ee⟩ := x
      simp only at *
      go_wp2_with fail
      refine (HNK.out wr).mono ?_
      rintro e w2 ⟨u, rfl, hu, hb2⟩
      rw [← HISK.out] at hu
      have HA2 := hid (HA.out.go hb2)
      have HO2 := hid (ownsRow_below HOWN.out hb2)
      have HC2 := hid (contains_calls u (ints tl) (j : Int) w2 hu.1)
      rw [HCTK.out] at HC2
      clear HNK hb2 hu c0 c1 c2 c3 c4 HOWN HA HCTK
      by_cases hin : j ∈ tl
      · rw [decide_eq_true hin] at HC2
        have HY := hid (HYES.out hin)
        clear hin HYES HNO
        go_wp2_with fail
        refine HC2.out.mono ?_
        rintro e w3 ⟨rfl, rfl⟩
        have HO3 := hid (HO2.out.alloc (.cells #[.int .i64 k] 3))
        have HI3 := hid (ints_one (w := w2.alloc (.cells #[.int .i64 k] 3)) (b := w2.heap.size) (n := k) (cell_new _ _ _ _ rfl) (size_new _ _ _ rfl))
        have hsz : w1.heap.size ≤ (w2.alloc (.cells #[.int .i64 k] 3)).heap.size := Nat.le_trans HA2.out.size (alloc_below _ _).size
        have HA3 := hid (HA2.out.alloc (.cells #[.int .i64 k] 3))
        have hn3 : (aheadN bl j k).length ≤ 100000 := by have := HLN.out; have := HLT.out; have := HL16.out; omega
        clear HC2
        go_wp2_with (at_builtin; refine wpList_append_intsN rfl (.tmp 34) (.tmp 36) rfl w1.heap.size (.slice ua (aheadN bl j k).length uc) rfl (aheadN bl j k).length (intVals (ints (aheadN bl j k))) HO3.out hn3 (.slice (some ⟨w2.heap.size, 0, none⟩) 1 1) [(k : Int)] rfl HI3.out (by simp) hsz ?_)
        intro v7 w7 hown7 hgr7 hnr7
        have HO7 : Hid (w7.ownsRow w1.heap.size 3 1 v7 (aheadN bl j (k + 1)).length (intVals (ints (aheadN bl j (k + 1))))) := by
          show World.ownsRow _ _ _ _ _ _ _
          rw [HY.out, ints_append, intVals_append, List.length_append]
          exact hown7
        have HA7 : Hid (Aft w1 w7) := HA3.out.below.grown hgr7 hsz fun q hq => (HO3.out.lt q hq).1
        obtain ⟨xa, xc, rfl⟩ := own_slice hown7
        clear hown7 hgr7 hnr7 HO3 HI3 HA3 HO2 HA2
        go_wp2
        go_roundg (gk - 1)
        case measure => have := HK.out; have := HLT.out; omega
        case rel => exact ⟨k + 1, by have := HK.out; have := HLT.out; omega, by go_num, HO7.out, HA7.out⟩
      · rw [decide_eq_false hin] at HC2
        have HY := hid (HNO.out hin)
        clear hin HYES HNO
        go_wp2_with fail
        refine HC2.out.mono ?_
        rintro e w3 ⟨rfl, rfl⟩
        clear HC2
        go_wp2
        go_roundg (gk - 1)
        case measure => have := HK.out; have := HLT.out; omega
        case rel => exact ⟨k + 1, by have := HK.out; have := HLT.out; omega, by go_num, by rw [HY.out]; exact HO2.out, HA2.out⟩
    · obtain rfl : k = bl.length := by have := HK.out; omega
      have HE := hid ((HH1.out.trans hA).out HBW.out)
      have HS := hid (Nat.le_trans HBW.out.size HH1.out.size)
      rw [aheadN_all] at HOWN ⊢
      have HLA : Hid ((aheadL bl j).length ≤ 16) := by have := aheadN_len bl j bl.length; rw [aheadN_all] at this; show _ ≤ _; have := HL16.out; omega
      clear hA HK hlt
      go_wp2
      go_ret2
      exact ⟨_, rfl, by rw [HN.out]; exact newI_base (newI_of HOWN.out (by rw [ints_length]; have := HLA.out; omega)) HS.out, HE.out⟩

end Go.Proofs.YtimnjkdhcnhkoaaDoor.FkV
