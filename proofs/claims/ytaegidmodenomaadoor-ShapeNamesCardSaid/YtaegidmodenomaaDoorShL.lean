/- Walk over shape.Reg. -/
import Derived.Test.YtaegidmodenomaaDoorShK
namespace Go.Proofs.YtaegidmodenomaaDoor.ShL
open Go.RowKit Go.Lib SetP IntO TyM TyP TyB TyC ShM ShP ShA ShB ShC ShE ShQ ShF ShG ShH ShI ShJ ShK

/-- what Reg answers -/
def insN (l : List Bx) (b : Int) : Nat := ((l[b.toNat]?).getD default).ins.length
def regE (p : Px) (f b i : Int) : Int := if findP p f ≠ 0 then findP p f else if (0 ≤ b ∧ b < (fnP p f).blocks.length) ∧ 0 ≤ i ∧ i < insN (fnP p f).blocks b then 0 else 2
def regN (p : Px) (f b i : Int) : Int := if regE p f b i ≠ 0 then (0 : Int) else ((parOf p.types (fnP p f).sig + manyB ((fnP p f).blocks.take b.toNat) : Nat) : Int) + i
theorem insN_at {l : List Bx} {k : Nat} (h : k < l.length) : insN l (k : Int) = l[k].ins.length := by
  unfold insN
  rw [Int.toNat_natCast, List.getElem?_eq_getElem h]; rfl

set_option maxRecDepth 100000 in
set_option maxHeartbeats 16000000 in
theorem reg_calls (p : Px) (f b i : Int) (v : Value) (w : World) (hp : PrAt w v p) (htab : Tab w) (hs : Small p) (hok : POk p) :
    Calls Tryd.prog 12 #[v, .int .i64 f, .int .i64 b, .int .i64 i] w (TwoR (regN p f b i) (regE p f b i) w) := by
  have hp0 := hp
  obtain ⟨vt, vf, rfl, ht, hf⟩ := hp
  have hb0 := alloc_below w (.cells #[vt, vf] 29)
  have HC := hid (find_calls p f _ _ (hp0.below hb0) (htab.on hb0) hs hok)
  have HB0 := hid hb0
  have HPE : Hid (regE p f b i = if findP p f ≠ 0 then findP p f else if (0 ≤ b ∧ b < (fnP p f).blocks.length) ∧ 0 ≤ i ∧ i < insN (fnP p f).blocks b then 0 else 2) := rfl
  have HPN : Hid (regN p f b i = if regE p f b i ≠ 0 then (0 : Int) else ((parOf p.types (fnP p f).sig + manyB ((fnP p f).blocks.take b.toNat) : Nat) : Int) + i) := rfl
  generalize regN p f b i = pn at *
  generalize regE p f b i = pe at *
  by_cases hz : findP p f = 0
  rotate_left
  · rw [if_pos hz] at HPE
    rw [HPE.out, if_pos hz] at HPN
    have e0 : (findP p f != 0) = true := by simpa using hz
    obtain ⟨ta, tc, rfl⟩ := ht.slice
    obtain ⟨fa, fc, rfl, hfl⟩ := hf.slice
    rw [HPE.out, HPN.out]
    clear ht hf htab hs hok hp0 hb0 HPE HPN
    generalize findP p f = fe at *
    generalize p.types.length = n1 at *
    generalize p.funcs.length = n2 at *
    go_enter Tryd.func12, Tryd.ntmps12
    go_wp2_with fail
    refine HC.out.mono ?_
    rintro e w1 ⟨rfl, hb1⟩
    have hbe := HB0.out.trans (hb1.mono HB0.out.size)
    clear HC hb1 hz
    go_wp2
    go_ret2
    exact ⟨rfl, hbe⟩
  rw [if_neg (fun e => e hz)] at HPE
  rw [hz] at HC
  obtain ⟨k, x, h1⟩ := has1 hz
  rw [fn_eq h1] at HPE HPN
  obtain ⟨fb, foff, fcap, vb, rfl, hfb, c0, c1, hbl⟩ := fn_at hf h1
  have hpl := par_le hs.parts h1.sig0 h1.sig1
  have hmany := h1.many
  have HPA := hid (fun wx (hx : Below w.heap.size w wx) => params_calls p.types x vt (.slice (some ⟨fb, foff, none⟩) p.funcs.length fcap) vb wx (ht.below hx) ⟨_, _, _, rfl⟩ h1.sig0 h1.sig1 (hbl.below blkStays hx).slice)
  have HB1 := hid (fun (m n : Int) (wx : World) => ShE.below_calls m (.slice (some ⟨wx.heap.size, 0, none⟩) 1 1) [n] (wx.alloc (.cells #[.int .i64 n] 3)) (ints_one (cell_new _ _ _ _ rfl) (size_new _ _ _ rfl)))
  obtain ⟨ta, tc, rfl⟩ := ht.slice
  obtain ⟨ba, bc, rfl, hbll⟩ := hbl.slice
  have HIN := hid (fun (j : Nat) (hj : j ≤ x.blocks.length) wx (hx : Below w.heap.size w wx) => instructions_calls (.slice ba j bc) (x.blocks.take j) wx ((hbl.below blkStays hx).take j hj) (by have := manyB_le x.blocks j; omega))
  have HBLK := hid hbl
  have hcap := hbl.cap
  have hkl : (k : Int) < p.funcs.length := by have := h1.lt; omega
  have hk0 : (0 : Int) ≤ k := by omega
  have hke := h1.eq
  have HLT := hid hfb
  have HC0 := hid c0
  have HC1 := hid c1
  have HMANY : Hid (manyB x.blocks ≤ 128) := hmany
  have HPL : Hid (parOf p.types x.sig ≤ 20) := hpl
  have HML := hid (manyB_le x.blocks)
  have HMM := hid (fun j (h : j < x.blocks.length) => manyB_mem h)
  clear ht hf htab hs hok hp0 hb0 hz hbl h1 c0 c1 hmany hpl
  subst hke
  generalize parOf p.types x.sig = par at *
  generalize p.types.length = n1 at *
  generalize p.funcs.length = n2 at *
  cases hd : decide (0 ≤ b ∧ b < (x.blocks.length : Int)) with
  | false =>
    have HBL := hid (fun wx => HB1.out x.blocks.length b wx)
    simp only [low_one, hd] at HBL
    have HFE : Hid (pe = 2) := by show _ = _; rw [HPE.out, if_neg (fun h => (of_decide_eq_false hd) h.1)]
    have HFN : Hid (pn = 0) := by show _ = _; rw [HPN.out, HFE.out]; rfl
    clear HPE HPN HPA HIN HB1 HBLK HML HMM hd
    generalize x.blocks.length = nl at *
    go_enter Tryd.func12, Tryd.ntmps12
    go_wp2_with fail
    refine HC.out.mono ?_
    rintro e w3 ⟨rfl, hb1⟩
    have hbe := HB0.out.trans (hb1.mono HB0.out.size)
    obtain ⟨f1, _, s1, k1⟩ := copyF (alloc_new _ _) hb1 (by simp only [World.size_alloc]; omega)
    have p1 := f1 1 (by simp)
    simp only [List.getElem_toArray, List.getElem_cons_succ, List.getElem_cons_zero] at p1
    have d1 := (hbe.cell (p := ⟨fb, foff + k * 2 + 1, none⟩) HLT.out).trans HC1.out
    have HB2 := hid (HBL.out w3)
    clear HC hb1 f1 k1 HBL
    go_wp2_with fail
    refine HB2.out.mono ?_
    rintro e w4 ⟨rfl, hb4⟩
    have hbe4 := (hbe.alloc hbe.size (.cells #[.int .i64 b] 3)).trans (hb4.mono (hbe.alloc hbe.size _).size)
    clear HB2 hb4
    go_wp2
    go_ret2
    exact ⟨by rw [HFE.out, HFN.out]; rfl, hbe4⟩
  | true =>
    have hbr := of_decide_eq_true hd
    obtain ⟨j, rfl⟩ : ∃ j : Nat, b = j := ⟨b.toNat, by omega⟩
    have hjl : j < x.blocks.length := by omega
    have HBL := hid (fun wx => HB1.out x.blocks.length j wx)
    simp only [low_one, hd] at HBL
    obtain ⟨bb, boff, rfl, hbb, vi, b0, b1, b2, b3, b4, hins⟩ := HBLK.out.at j hjl
    obtain ⟨ia, ic, rfl, _⟩ := hins.slice
    rw [insN_at hjl, Int.toNat_natCast] at *
    have hil : x.blocks[j].ins.length ≤ 300 := by have := HMM.out j hjl; have := HMANY.out; omega
    have HIB := hid hbb
    have HIC := hid b0
    have HIN1 := hid (HIN.out j (by omega))
    have hm1 : manyB (x.blocks.take j) ≤ 128 := by have := HML.out j; have := HMANY.out; omega
    clear hd b1 b2 b3 b4 hins hbb b0 HBLK HMM HML HIN
    generalize x.blocks[j].ins.length = il at *
    generalize manyB (x.blocks.take j) = mj at *
    have HBR := hid hbr
    have hjn : (j : Int) < x.blocks.length := by omega
    have hj0 : (0 : Int) ≤ j := by omega
    have hjc : (j : Int) ≤ bc := by omega
    have HB1' := hid (fun wx => HB1.out il i wx)
    simp only [low_one] at HB1'
    clear HB1 hbr
    generalize hnl : x.blocks.length = nl at *
    clear hnl
    cases hd2 : decide (0 ≤ i ∧ i < (il : Int)) with
    | false =>
      rw [hd2] at HB1'
      have HFE : Hid (pe = 2) := by show _ = _; rw [HPE.out, if_neg (fun h => (of_decide_eq_false hd2) h.2)]
      have HFN : Hid (pn = 0) := by show _ = _; rw [HPN.out, HFE.out]; rfl
      clear HPE HPN HPA HIN1 hd2
      go_enter Tryd.func12, Tryd.ntmps12
      go_wp2_with fail
      refine HC.out.mono ?_
      rintro e w3 ⟨rfl, hb1⟩
      have hbe := HB0.out.trans (hb1.mono HB0.out.size)
      obtain ⟨f1, _, s1, k1⟩ := copyF (alloc_new _ _) hb1 (by simp only [World.size_alloc]; omega)
      have p1 := f1 1 (by simp)
      simp only [List.getElem_toArray, List.getElem_cons_succ, List.getElem_cons_zero] at p1
      have d1 := (hbe.cell (p := ⟨fb, foff + k * 2 + 1, none⟩) HLT.out).trans HC1.out
      have HB2 := hid (HBL.out w3)
      clear HC hb1 f1 k1 HBL
      go_wp2_with fail
      refine HB2.out.mono ?_
      rintro e w4 ⟨rfl, hb4⟩
      have hbe4 := (hbe.alloc hbe.size (.cells #[.int .i64 j] 3)).trans (hb4.mono (hbe.alloc hbe.size _).size)
      have i0 := (hbe4.cell (p := ⟨bb, boff + j * 5, none⟩) HIB.out).trans HIC.out
      have HB3 := hid (HB1'.out w4)
      clear HB2 hb4 hbe p1 d1 HB1'
      go_wp2_with fail
      refine HB3.out.mono ?_
      rintro e w5 ⟨rfl, hb5⟩
      have hbe5 := (hbe4.alloc hbe4.size (.cells #[.int .i64 i] 3)).trans (hb5.mono (hbe4.alloc hbe4.size _).size)
      clear HB3 hb5
      go_wp2
      go_ret2
      exact ⟨by rw [HFE.out, HFN.out]; rfl, hbe5⟩
    | true =>
      rw [hd2] at HB1'
      have hir := of_decide_eq_true hd2
      have HFE : Hid (pe = 0) := by show _ = _; rw [HPE.out, if_pos ⟨HBR.out, hir⟩]
      have HFN : Hid (pn = ((par + mj : Nat) : Int) + i) := by show _ = _; rw [HPN.out, HFE.out]; rfl
      have hw1 : IntKind.i64.wrap ((par : Int) + mj) = ((par + mj : Nat) : Int) := sum_wrap (by have := HPL.out; omega)
      have hw2 : IntKind.i64.wrap ((par : Int) + mj + i) = ((par + mj : Nat) : Int) + i := by rw [IntWalk.i64_in _ (by have := HPL.out; omega)]; omega
      have HW1 := hid hw1
      have HW2 := hid hw2
      clear HPE HPN hd2 hw1 hw2 hir
      go_enter Tryd.func12, Tryd.ntmps12
      go_wp2_with fail
      refine HC.out.mono ?_
      rintro e w3 ⟨rfl, hb1⟩
      have hbe := HB0.out.trans (hb1.mono HB0.out.size)
      obtain ⟨f1, _, s1, k1⟩ := copyF (alloc_new _ _) hb1 (by simp only [World.size_alloc]; omega)
      have HK1 := hid k1
      have p1 := f1 1 (by simp)
      simp only [List.getElem_toArray, List.getElem_cons_succ, List.getElem_cons_zero] at p1
      have d1 := (hbe.cell (p := ⟨fb, foff + k * 2 + 1, none⟩) HLT.out).trans HC1.out
      have HB2 := hid (HBL.out w3)
      clear HC hb1 f1 k1 HBL
      go_wp2_with fail
      refine HB2.out.mono ?_
      rintro e w4 ⟨rfl, hb4⟩
      have hb34 : Below w3.heap.size w3 w4 := (alloc_below w3 _).trans (hb4.mono (alloc_below w3 _).size)
      have hbe4 := hbe.trans (hb34.mono hbe.size)
      have HK4 := hid (keepBlk hb34 HK1.out)
      have i0 := (hbe4.cell (p := ⟨bb, boff + j * 5, none⟩) HIB.out).trans HIC.out
      have HB3 := hid (HB1'.out w4)
      clear HB2 hb4 hbe p1 d1 HB1' hb34 HK1 s1
      go_wp2_with fail
      refine HB3.out.mono ?_
      rintro e w5 ⟨rfl, hb5⟩
      have hb45 : Below w4.heap.size w4 w5 := (alloc_below w4 _).trans (hb5.mono (alloc_below w4 _).size)
      have hbe5 := hbe4.trans (hb45.mono hbe4.size)
      have HK5 := hid (keepBlk hb45 HK4.out)
      clear HB3 hb5 hb45 HK4 i0 hbe4
      obtain ⟨f1, _, s1, _⟩ := copyF HK5.out (Below.refl w5.heap.size w5) (Array.getElem?_eq_some_iff.1 HK5.out).1
      have p0 := f1 0 (by simp); have p1 := f1 1 (by simp)
      simp only [List.getElem_toArray, List.getElem_cons_succ, List.getElem_cons_zero] at p0 p1
      have d0 := (hbe5.cell (p := ⟨fb, foff + k * 2, none⟩) HLT.out).trans HC0.out
      have d1 := (hbe5.cell (p := ⟨fb, foff + k * 2 + 1, none⟩) HLT.out).trans HC1.out
      have s2 := Nat.lt_of_lt_of_le HLT.out hbe5.size
      clear f1
      go_wp2_with fail
      have HPA1 := hid (HPA.out w5.drew hbe5.drew)
      have HOS := hid (old_start w5)
      have HBd : Hid (Below w.heap.size w w5.drew) := hbe5.drew
      clear HPA hbe5
      have hwr := HW1.out
      have hwr2 := HW2.out
      generalize hn5 : w5.heap.size = n5 at *
      have HN5 := hid hn5
      clear hn5
      have hs5 : n5 ≤ w5.heap.size := Nat.le_of_eq HN5.out.symm
      go_region_held3 (fun w' => n5 ≤ w'.heap.size ∧ ∀ b o, b < n5 → w'.cell? ⟨b, o, none⟩ = w5.cell? ⟨b, o, none⟩)
        (first | with_reducible exact old_call hb7 (old_call hb6 HOS.out) | with_reducible exact old_call hb6 HOS.out | with_reducible exact HOS.out)
        (first | (go_at_call 35; (with_reducible refine HPA1.out.mono ?_); rintro e w6 ⟨rfl, hb6⟩; have B6 := HBd.out.trans (hb6.mono HBd.out.size)) | (go_at_call 36; (with_reducible refine (HIN1.out w6 B6).mono ?_); rintro e w7 ⟨rfl, hb7⟩; have B7 := B6.trans (hb7.mono B6.size)))
      all_goals
        go_wp2
        go_ret2
        exact ⟨by rw [HFE.out, HFN.out]; rfl, B7⟩
end Go.Proofs.YtaegidmodenomaaDoor.ShL
