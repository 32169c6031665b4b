/- Walk over fescueref10.Set. -/
import Derived.Test.YtkohdofbjoomjaaGreatDoorZShNuToFdE
namespace Go.Proofs.YtkohdofbjoomjaaGreatDoor.FdF
open Go.RowKit Go.Lib RwO SetP IntO TyM TyP TyB TyC TyRA ShM ShP ShA ShB ShC ShE ShRA ShH ShI ShJ ShK ShL ShRG ShRH ShRI Aft FwM FwC FwP FwQ FwR FvA FvB FvC FvP RwB FvD FvE FdM FdQ FdA FdB FdE ShBP 

/-- a block's instructions, in every world behind -/
theorem ins_later {W : World} {ao : Option Addr} {n c : Nat} {l : List Bx} (h : BlksAt W (.slice ao n c) l) (b : Nat) (hb : b < l.length) : ∃ g off ia ic, ao = some ⟨g, off, none⟩ ∧ l[b].ins.length ≤ 9223372036854775807 ∧ ∀ w', Aft W w' → w'.cell? ⟨g, off + b * 5, none⟩ = some (.slice ia l[b].ins.length ic) := by
  obtain ⟨g, off, rfl, hlt, vi, c0, _, _, _, _, hi⟩ := h.at b hb
  obtain ⟨ia, ic, rfl, hl⟩ := hi.slice
  exact ⟨g, off, ia, ic, rfl, hl, later c0⟩

set_option maxRecDepth 100000 in
set_option maxHeartbeats 8000000 in
theorem set_calls (p : Px) (f r block pl : Int) (v : Value) (w : World) (hp : PrAt w v p) (hs : Small p) (hok : POk p) :
    Calls Tryz.prog 16 #[v, .int .i64 f, .int .i64 r, .int .i64 block, .int .i64 pl] w (BoolE (setA p f r block pl) (setE p f r block pl) w) := by
  have hp0 := hp
  obtain ⟨vt, vf, rfl, ht, hf⟩ := hp
  obtain ⟨W, hW⟩ : ∃ W, W = w.alloc (.cells #[vt, vf] 25) := ⟨_, rfl⟩
  have hbW : Below w.heap.size w W := by rw [hW]; exact alloc_below _ _
  have k1 : W.heap[w.heap.size]? = some (.cells #[vt, vf] 25 (0, 0)) := by rw [hW]; exact alloc_new _ _
  have hpW := hp0.below hbW
  have HPW := hid hpW
  have HS := hid hs
  have HFN := hid (fun (k : Nat) (x : Fx) (h1 : Has1 p f k x) => fn_later (hf.below fnStays hbW) h1)
  have HOK := hid hok
  obtain ⟨ta, tc, rfl⟩ := ht.slice
  obtain ⟨fa, fc, rfl, _⟩ := hf.slice
  have l0 := later_cells k1 0 _ rfl; have l1 := later_cells k1 1 _ rfl
  have HBW := hid hbW
  have HW := hid hW
  have h0 := Aft.refl W
  clear ht hf hpW hbW hW k1 hp0 hs hok
  have HR1 := hid (placeR_calls p f r _ W HPW.out HS.out HOK.out)
  have HR2 := hid (fun wx (h : Aft W wx) => FvB.next_calls p f block _ wx (HPW.out.below h.below) HS.out HOK.out)
  have HR3 := hid (fun wx (h : Aft W wx) => askedD_calls p f block _ wx (HPW.out.below h.below) HS.out HOK.out)
  by_cases hz : placeE p f r = 0
  rotate_left
  · have HE : Hid (setE p f r block pl = placeE p f r) := by show _ = _; unfold setE; rw [if_pos hz]
    have HA : Hid (setA p f r block pl = false) := by show _ = _; unfold setA; rw [if_neg (by rw [HE.out]; exact hz)]
    have e0 : (placeE p f r != 0) = true := by simpa using hz
    rw [HE.out, HA.out]
    clear HFN HOK HPW HS HR2 HR3 hz HE HA
    generalize placeB p f r = pb at *
    generalize placeI p f r = pi at *
    generalize placeE p f r = fe at *
    generalize p.types.length = n1 at *
    generalize p.funcs.length = n2 at *
    go_enter Tryz.func16, Tryz.ntmps16
    go_wp2_with fail
    rw [← HW.out]
    refine HR1.out.mono ?_
    rintro e w1 ⟨rfl, hb1⟩
    have h1 := h0.go hb1
    clear HR1 hb1
    go_wp2
    go_ret2
    exact ⟨rfl, h1.out HBW.out⟩
  rw [hz] at HR1
  have hfz : findP p f = 0 := by
    unfold placeE at hz
    by_cases h : findP p f = 0
    · exact h
    · rw [if_pos h] at hz; exact absurd hz h
  have HIS := hid (fun (h : 0 ≤ block ∧ block < (blsP p f).length) wx (hx : Aft W wx) => isSet_calls p f r block pl _ wx (HPW.out.below hx.below) HS.out HOK.out hfz hz h)
  generalize placeB p f r = pb at *
  generalize placeI p f r = pi at *
  by_cases hy : askB p f block = 0
  rotate_left
  · have HAE : Hid (atE p f block pl = askB p f block) := by show _ = _; unfold atE; rw [if_pos hy]
    have HE : Hid (setE p f r block pl = askB p f block) := by show _ = _; unfold setE; rw [if_neg (fun e => e hz), if_pos (by rw [HAE.out]; exact hy), HAE.out]
    have HA : Hid (setA p f r block pl = false) := by show _ = _; unfold setA; rw [if_neg (by rw [HE.out]; exact hy)]
    have e0 : (askB p f block != 0) = true := by simpa using hy
    have e1 : (askB p f block == 0) = false := by simpa using hy
    rw [HE.out, HA.out]
    clear HFN HOK HPW HS HR3 hz hy HE HA HAE HIS hfz
    generalize nextA p f block = na at *
    generalize askB p f block = fe at *
    generalize p.types.length = n1 at *
    generalize p.funcs.length = n2 at *
    go_enter Tryz.func16, Tryz.ntmps16
    go_wp2_with fail
    rw [← HW.out]
    refine HR1.out.mono ?_
    rintro e w1 ⟨rfl, hb1⟩
    have h1 := h0.go hb1
    have HQ := hid (HR2.out w1 h1)
    clear HR1 hb1 HR2
    go_wp2_with fail
    refine HQ.out.mono ?_
    rintro e w2 ⟨u, rfl, _, hb2⟩
    have h2 := h1.go hb2
    clear HQ hb2
    go_wp2
    go_ret2
    exact ⟨rfl, h2.out HBW.out⟩
  rw [hy] at HR2
  obtain ⟨_, b0, b1⟩ := ask_zero hy
  obtain ⟨j, hj⟩ : ∃ j : Nat, block = j := ⟨block.toNat, by omega⟩
  subst hj
  obtain ⟨k, x, h1⟩ := has1 hfz
  have HISB := hid (HIS.out ⟨b0, b1⟩)
  have HAT : Hid (atE p f (j : Int) pl = if pl < 0 ∨ (insN (blsP p f) (j : Int) : Int) < pl then 2 else 0) := by show _ = _; unfold atE; rw [if_neg (fun e => e hy)]
  have HSE : Hid (setE p f r (j : Int) pl = if atE p f (j : Int) pl ≠ 0 then atE p f (j : Int) pl else askR p f (j : Int)) := by show _ = _; unfold setE; rw [if_neg (fun e => e hz)]
  have HSA : Hid (setA p f r (j : Int) pl = if setE p f r (j : Int) pl = 0 then isSetL (parOf p.types (fnP p f).sig) (blsP p f) r (j : Int) pl else false) := rfl
  rw [fn_blocks h1] at HAT b1
  obtain ⟨fb, foff, fcap, ao, bc, he, d0, d1, hbl⟩ := HFN.out k x h1
  cases he
  have hjl : j < x.blocks.length := by omega
  obtain ⟨gb, goff, ia, ic, rfl, hil, hins⟩ := ins_later hbl j hjl
  rw [insN_at hjl] at HAT
  generalize isSetL (parOf p.types (fnP p f).sig) (blsP p f) r (j : Int) pl = sb at *
  have hke := h1.eq
  have hkl := h1.lt
  clear HFN HOK HPW HS h1 hz hy b0 b1 hbl HIS hfz
  subst hke
  generalize nextA p (k : Int) (j : Int) = na at *
  generalize atE p (k : Int) (j : Int) pl = ae at *
  generalize setA p (k : Int) r (j : Int) pl = sa at *
  generalize setE p (k : Int) r (j : Int) pl = se at *
  obtain ⟨sg, bl⟩ := x
  simp only at *
  generalize bl[j].ins.length = n4 at *
  generalize p.types.length = n1 at *
  generalize p.funcs.length = n2 at *
  generalize bl.length = n3 at *
  have hjl2 : (j : Int) < (n3 : Int) := by omega
  by_cases p0 : pl < 0
  · rw [if_pos (.inl p0)] at HAT
    rw [HAT.out, if_pos (by decide)] at HSE
    rw [HSE.out, if_neg (by decide)] at HSA
    rw [HSE.out, HSA.out]
    clear HAT HSE HSA HISB HR3
    go_enter Tryz.func16, Tryz.ntmps16
    go_wp2_with fail
    rw [← HW.out]
    refine HR1.out.mono ?_
    rintro e w1 ⟨rfl, hb1⟩
    have h1 := h0.go hb1
    have HQ := hid (HR2.out w1 h1)
    clear HR1 hb1 HR2
    go_wp2_with fail
    refine HQ.out.mono ?_
    rintro e w2 ⟨u, rfl, _, hb2⟩
    have h2 := h1.go hb2
    have HEE := hid (h2.out HBW.out)
    clear HQ hb2
    go_wp2
    all_goals first | (exfalso; omega) | (go_ret2; exact ⟨rfl, HEE.out⟩)
  by_cases p1 : (n4 : Int) < pl
  · rw [if_pos (.inr p1)] at HAT
    rw [HAT.out, if_pos (by decide)] at HSE
    rw [HSE.out, if_neg (by decide)] at HSA
    rw [HSE.out, HSA.out]
    clear HAT HSE HSA HISB HR3
    go_enter Tryz.func16, Tryz.ntmps16
    go_wp2_with fail
    rw [← HW.out]
    refine HR1.out.mono ?_
    rintro e w1 ⟨rfl, hb1⟩
    have h1 := h0.go hb1
    have HQ := hid (HR2.out w1 h1)
    clear HR1 hb1 HR2
    go_wp2_with fail
    refine HQ.out.mono ?_
    rintro e w2 ⟨u, rfl, _, hb2⟩
    have h2 := h1.go hb2
    have HEE := hid (h2.out HBW.out)
    clear HQ hb2
    go_wp2
    all_goals first | (exfalso; omega) | (go_ret2; exact ⟨rfl, HEE.out⟩)
  rw [if_neg (by omega)] at HAT
  rw [HAT.out, if_neg (fun e => e rfl)] at HSE
  by_cases hq : askR p (k : Int) (j : Int) = 0
  rotate_left
  · rw [HSE.out, if_neg hq] at HSA
    have e0 : (askR p (k : Int) (j : Int) != 0) = true := by simpa using hq
    rw [HSE.out, HSA.out]
    clear HAT HSE HSA HISB hq
    generalize askR p (k : Int) (j : Int) = fe at *
    go_enter Tryz.func16, Tryz.ntmps16
    go_wp2_with fail
    rw [← HW.out]
    refine HR1.out.mono ?_
    rintro e w1 ⟨rfl, hb1⟩
    have h1 := h0.go hb1
    have HQ := hid (HR2.out w1 h1)
    clear HR1 hb1 HR2
    go_wp2_with fail
    refine HQ.out.mono ?_
    rintro e w2 ⟨u, rfl, _, hb2⟩
    have h2 := h1.go hb2
    have HQ2 := hid (HR3.out w2 h2)
    clear HQ hb2 HR3
    go_wp2_with fail
    all_goals (try (exfalso; omega))
    refine HQ2.out.mono ?_
    rintro e w3 ⟨rfl, hb3⟩
    have h3 := h2.go hb3
    have HEE := hid (h3.out HBW.out)
    clear HQ2 hb3
    go_wp2
    all_goals first | (exfalso; omega) | (go_ret2; exact ⟨rfl, HEE.out⟩)
  rw [HSE.out, if_pos hq] at HSA
  rw [hq] at HR3 HSE
  rw [HSE.out, HSA.out]
  clear HAT HSE HSA hq
  go_enter Tryz.func16, Tryz.ntmps16
  go_wp2_with fail
  rw [← HW.out]
  refine HR1.out.mono ?_
  rintro e w1 ⟨rfl, hb1⟩
  have h1 := h0.go hb1
  have HQ := hid (HR2.out w1 h1)
  clear HR1 hb1 HR2
  go_wp2_with fail
  refine HQ.out.mono ?_
  rintro e w2 ⟨u, rfl, _, hb2⟩
  have h2 := h1.go hb2
  have HQ2 := hid (HR3.out w2 h2)
  clear HQ hb2 HR3
  go_wp2_with fail
  all_goals (try (exfalso; omega))
  refine HQ2.out.mono ?_
  rintro e w3 ⟨rfl, hb3⟩
  have h3 := h2.go hb3
  have HQ3 := hid (HISB.out w3 h3)
  clear HQ2 hb3 HISB
  go_wp2_with fail
  all_goals (try (exfalso; omega))
  refine HQ3.out.mono ?_
  rintro e w4 ⟨rfl, hb4⟩
  have HEE := hid ((h3.go hb4).out HBW.out)
  clear HQ3 hb4
  go_wp2
  all_goals first | (exfalso; omega) | (go_ret2; exact ⟨rfl, HEE.out⟩)
end Go.Proofs.YtkohdofbjoomjaaGreatDoor.FdF
