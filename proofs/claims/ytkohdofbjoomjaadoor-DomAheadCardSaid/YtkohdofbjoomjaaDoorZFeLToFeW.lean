/- Walk over fescuelaw10.DomPlaces: set further on. Walk over fescuelaw10.rules. Walk over fescuelaw10.DomAhead: rulers of those ahead. Walk over fescuelaw10.DomNexts: from ruler to ruler. Walk over fescuelaw10.DomLaws: rulers of rulers. -/
import Derived.Test.YtkohdofbjoomjaaDoorZDmIToFeP
import Derived.Test.YtkohdofbjoomjaaDoorZShIToIntG
import Derived.Test.YtkohdofbjoomjaaDoorZShBToShR
import Derived.Test.YtkohdofbjoomjaaDoorZShOpenToFeZ3
import Derived.Test.YtkohdofbjoomjaaDoorZFwRToRwO
import Derived.Deep.QuietTactic
import Derived.BigQuiet
import Derived.Deep.RegionHeld3
namespace Go.Proofs.YtkohdofbjoomjaaDoor.FeL
open Go.RowKit Go.Lib RwO SetP IntO TyM TyP TyB TyC ShM ShP ShA ShB ShC ShE ShI ShJ ShR ShOpen ShTB Aft Fresh LwT PgB FwM FwC FwP FwQ FwR FwB FwK FdM FdQ FdK FeO FeA FeP

set_option maxRecDepth 100000 in
set_option maxHeartbeats 16000000 in
theorem walk_of (CS : SetC) (CR : RulesC) (CN : NextDC) (W : World) (v : Value) (p : Px) (S : PrAt W v p) (_ : ∀ y ∈ p.types, TyOk y) (z : ∀ y ∈ p.funcs, FxOk y) (ln : Lens p) (f : Int) (fw : (Lit.int .i64 f).wf = true) (r : Int) (rw : (Lit.int .i64 r).wf = true) (bk : Int) (bkw : (Lit.int .i64 bk).wf = true) (pl : Int) (plw : (Lit.int .i64 pl).wf = true) (ht : Tab W) :
    Calls Tryd.prog 7 #[v, .int .i64 f, .agg #[.int .i64 r, .int .i64 bk, .int .i64 pl]] W fun e W' => e = .returned (.bool true) ∧ Below W.heap.size W W' := by
  have v64f : I64 f := i64_wf fw
  have v64r : I64 r := i64_wf rw
  have v64bk : I64 bk := i64_wf bkw
  have v64pl : I64 pl := i64_wf plw
  have hok : POk p := fun f hf b hb => ⟨(z f hf b hb).1, fun y hy => ((z f hf b hb).2 y hy).1⟩
  have HOK := hid hok
  have hp0 := S
  obtain ⟨vt, vf, rfl, hvt, hvf⟩ := S
  obtain ⟨W0, hW0⟩ : ∃ W0, W0 = (W.alloc (.cells #[vt, vf] 25)).alloc (.cells #[.int .i64 r, .int .i64 bk, .int .i64 pl] 45) := ⟨_, rfl⟩
  have hbW : Below W.heap.size W W0 := by rw [hW0]; exact (alloc_below _ _).alloc (by simp only [World.size_alloc]; omega) _
  have k1 : W0.heap[W.heap.size]? = some (.cells #[vt, vf] 25 (0, 0)) := by rw [hW0]; exact alloc_old (alloc_new _ _) _
  have k2 : W0.heap[W.heap.size + 1]? = some (.cells #[.int .i64 r, .int .i64 bk, .int .i64 pl] 45 (0, 0)) := by
    rw [hW0]
    have := alloc_new (W.alloc (.cells #[vt, vf] 25)) (.cells #[.int .i64 r, .int .i64 bk, .int .i64 pl] 45)
    rwa [World.size_alloc] at this
  have HP := hid (hp0.below hbW)
  have HT := hid (ht.on hbW)
  have HAL := hid (alive_of CR CN W0 HT.out)
  have HG := hid (fun wx (h : Aft W0 wx) => ShR.great_calls p _ 300 wx (HP.out.below h.below) ln (by decide) (by decide))
  obtain ⟨ta, tc, rfl⟩ := hvt.slice
  obtain ⟨fa, fc, rfl, _⟩ := hvf.slice
  have l0 : ∀ w', Aft W0 w' → w'.cell? ⟨W.heap.size, 0, none⟩ = some (.slice ta p.types.length tc) := later_cells k1 0 _ rfl
  have l1 : ∀ w', Aft W0 w' → w'.cell? ⟨W.heap.size, 1, none⟩ = some (.slice fa p.funcs.length fc) := later_cells k1 1 _ rfl
  have HBW := hid hbW
  have HW := hid hW0
  have x0 := later_cells k2 0 _ rfl
  have x1 := later_cells k2 1 _ rfl
  have x2 := later_cells k2 2 _ rfl
  have h0 := Aft.refl W0
  have HIf := hid v64f
  have HIr := hid v64r
  have HIbk := hid v64bk
  have HIpl := hid v64pl
  clear hvt hvf hp0 hbW hW0 k1 z ln ht hok k2 v64f fw v64r rw v64bk bkw v64pl plw
  generalize p.types.length = n1 at *
  generalize p.funcs.length = n2 at *
  go_enter Tryd.func7, Tryd.ntmps7
  go_wp2_with fail
  rw [← HW.out]
  refine HAL.out.mono ?_
  rintro e w1 ⟨rfl, hb1⟩
  have h1 := h0.go hb1
  have HG1 := hid (HG.out w1 h1)
  clear HAL hb1 HG
  go_wp2_with fail
  refine HG1.out.mono ?_
  rintro e w2 ⟨gb, rfl, hsmall, hb2⟩
  have h2 := h1.go hb2
  clear HG1 hb2
  cases gb with
  | true =>
    clear hsmall
    go_wp2
    go_ret
    exact ⟨rfl, h2.out HBW.out⟩
  | false =>
  have HS := hid (hsmall rfl)
  clear hsmall h1 h0
  have hp64 := HIpl.out
  unfold I64 at hp64
  by_cases p0 : pl < 0
  · have HE := hid (h2.out HBW.out)
    clear HS HOK HP HT HIf HIr HIbk HIpl
    go_wp2
    all_goals first | (exfalso; omega) | (go_ret; exact ⟨rfl, HE.out⟩)
  by_cases p1 : 1000 < pl
  · have HE := hid (h2.out HBW.out)
    clear HS HOK HP HT HIf HIr HIbk HIpl
    go_wp2
    all_goals first | (exfalso; omega) | (go_ret; exact ⟨rfl, HE.out⟩)
  have HC1 := hid (CS p f r bk pl _ w2 (HP.out.below h2.below) (HT.out.on h2.below) HS.out HOK.out HIf.out HIr.out HIbk.out HIpl.out)
  have HC2 := hid (fun wx (h : Aft W0 wx) => CS p f r bk (pl + 1) _ wx (HP.out.below h.below) (HT.out.on h.below) HS.out HOK.out HIf.out HIr.out HIbk.out ⟨by omega, by omega⟩)
  have HEN := hid (fun h => setE_next (p := p) (f := f) (r := r) (block := bk) (pl := pl) h)
  have HAN := hid (fun h h2 => setA_next (p := p) (f := f) (r := r) (block := bk) (pl := pl) h h2)
  have HA0 : Hid (setE p f r bk pl ≠ 0 → setA p f r bk pl = false) := fun h => by unfold setA; rw [if_neg h]
  clear HS HOK HP HT HIf HIr HIbk HIpl
  generalize setE p f r bk pl = e1 at *
  generalize setE p f r bk (pl + 1) = e2 at *
  generalize setA p f r bk pl = s1 at *
  generalize setA p f r bk (pl + 1) = s2 at *
  go_wp2_with fail
  all_goals (try (exfalso; omega))
  refine HC1.out.mono ?_
  rintro e w3 ⟨rfl, hb3⟩
  have h3 := h2.go hb3
  have HE3 := hid (h3.out HBW.out)
  have HC3 := hid (HC2.out w3 h3)
  clear HC1 hb3 h2 HC2
  by_cases he : e1 = 0
  rotate_left
  · have hs := HA0.out he
    have e0 : (e1 != 0) = true := by simpa using he
    subst hs
    clear HC3 HEN HAN he HA0
    go_wp2
    all_goals first | (exfalso; omega) | (go_ret; exact ⟨rfl, HE3.out⟩)
  have hen := HEN.out he
  have HAN2 := hid HAN.out
  subst he
  clear HEN HA0 HAN
  rcases hen with hen | hen
  · subst hen
    cases s1 with
    | false =>
      clear HAN2
      go_wp2_with fail
      all_goals (try (exfalso; omega))
      refine HC3.out.mono ?_
      rintro e w4 ⟨rfl, hb4⟩
      have HE4 := hid ((h3.go hb4).out HBW.out)
      clear HC3 hb4
      go_wp2
      all_goals first | (exfalso; omega) | (go_ret; exact ⟨rfl, HE4.out⟩)
    | true =>
      have hs2 := HAN2.out rfl rfl
      subst hs2
      clear HAN2
      go_wp2_with fail
      all_goals (try (exfalso; omega))
      refine HC3.out.mono ?_
      rintro e w4 ⟨rfl, hb4⟩
      have HE4 := hid ((h3.go hb4).out HBW.out)
      clear HC3 hb4
      go_wp2
      all_goals first | (exfalso; omega) | (go_ret; exact ⟨rfl, HE4.out⟩)
  · subst hen
    clear HAN2
    go_wp2_with fail
    all_goals (try (exfalso; omega))
    refine HC3.out.mono ?_
    rintro e w4 ⟨rfl, hb4⟩
    have HE4 := hid ((h3.go hb4).out HBW.out)
    clear HC3 hb4
    go_wp2
    all_goals first | (exfalso; omega) | (go_ret; exact ⟨rfl, HE4.out⟩)
end Go.Proofs.YtkohdofbjoomjaaDoor.FeL
namespace Go.Proofs.YtkohdofbjoomjaaDoor.FeR
open Go.RowKit Go.Lib RwO SetP IntO TyM TyP TyB TyC ShM ShP ShA ShB ShC ShE ShI ShJ ShR ShOpen ShTB Aft Fresh LwT PgB FwM FwC FwP FwQ FwR FwB FwK FdM FdQ FdK FeO FeA FeP

/-- whether one rules another one; false, too, where there is an error -/
theorem rulesE_or (p : Px) (f a b : Int) : (rulesE p f a b = 0) ∨ (rulesE p f a b ≠ 0 ∧ rulesA p f a b = false) := by
  by_cases h : rulesE p f a b = 0
  · exact .inl h
  · exact .inr ⟨h, by unfold rulesA; rw [if_neg h]⟩
set_option maxRecDepth 100000 in
set_option maxHeartbeats 4000000 in
theorem rules_of (CR : RulesC) (p : Px) (f a b : Int) (v : Value) (w : World) (hp : PrAt w v p) (ht : Tab w) (hs : Small p) (hok : POk p) (hf : I64 f) (ha : I64 a) (hb : I64 b) :
    Calls Tryd.prog 15 #[v, .int .i64 f, .int .i64 a, .int .i64 b] w (BoolR (rulesA p f a b) w) := by
  have hp0 := hp
  obtain ⟨vt, vf, rfl, htt, hff⟩ := hp
  obtain ⟨W, hW⟩ : ∃ W, W = w.alloc (.cells #[vt, vf] 25) := ⟨_, rfl⟩
  have hbW : Below w.heap.size w W := by rw [hW]; exact alloc_below _ _
  have k1 : W.heap[w.heap.size]? = some (.cells #[vt, vf] 25 (0, 0)) := by rw [hW]; exact alloc_new _ _
  have HC := hid (CR p f a b _ W (hp0.below hbW) (ht.on hbW) hs hok hf ha hb)
  obtain ⟨ta, tc, rfl⟩ := htt.slice
  obtain ⟨fa, fc, rfl, _⟩ := hff.slice
  have l0 := later_cells k1 0 _ rfl; have l1 := later_cells k1 1 _ rfl
  have HBW := hid hbW
  have HW := hid hW
  have h0 := Aft.refl W
  have hor := rulesE_or p f a b
  clear htt hff hbW hW k1 hp0 hs hok ht hf ha hb
  generalize p.types.length = n1 at *
  generalize p.funcs.length = n2 at *
  generalize rulesA p f a b = x at *
  generalize rulesE p f a b = er at *
  rcases hor with he | ⟨he, hx⟩
  · subst he
    go_enter Tryd.func15, Tryd.ntmps15
    go_wp2_with fail
    rw [← HW.out]
    refine HC.out.mono ?_
    rintro e w1 ⟨rfl, hb1⟩
    have HE := hid ((h0.go hb1).out HBW.out)
    clear HC hb1
    go_wp2
    go_ret
    exact ⟨rfl, HE.out⟩
  · have e0 : (er == 0) = false := by simpa using he
    subst hx
    clear he
    go_enter Tryd.func15, Tryd.ntmps15
    go_wp2_with fail
    rw [← HW.out]
    refine HC.out.mono ?_
    rintro e w1 ⟨rfl, hb1⟩
    have HE := hid ((h0.go hb1).out HBW.out)
    clear HC hb1
    go_wp2
    go_ret
    exact ⟨rfl, HE.out⟩
end Go.Proofs.YtkohdofbjoomjaaDoor.FeR
namespace Go.Proofs.YtkohdofbjoomjaaDoor.FeH
open Go.RowKit Go.Lib RwO SetP IntO TyM TyP TyB TyC ShM ShP ShA ShB ShC ShE ShI ShJ ShR ShOpen ShTB Aft Fresh LwT PgB FwM FwC FwP FwQ FwR FwB FwK FdM FdQ FdK FeO FeA FeP FeR

set_option maxRecDepth 100000 in
set_option maxHeartbeats 16000000 in
theorem walk_of (CR : RulesC) (CN : NextDC) (CP : PredsC) (W : World) (v : Value) (p : Px) (S : PrAt W v p) (_ : ∀ y ∈ p.types, TyOk y) (z : ∀ y ∈ p.funcs, FxOk y) (ln : Lens p) (f : Int) (fw : (Lit.int .i64 f).wf = true) (a : Int) (aw : (Lit.int .i64 a).wf = true) (b : Int) (bw : (Lit.int .i64 b).wf = true) (ht : Tab W) :
    Calls Tryd.prog 6 #[v, .int .i64 f, .int .i64 a, .int .i64 b] W fun e W' => e = .returned (.bool true) ∧ Below W.heap.size W W' := by
  have v64f : I64 f := i64_wf fw
  have v64a : I64 a := i64_wf aw
  have v64b : I64 b := i64_wf bw
  have hok : POk p := fun f hf b hb => ⟨(z f hf b hb).1, fun y hy => ((z f hf b hb).2 y hy).1⟩
  have HOK := hid hok
  have hp0 := S
  obtain ⟨vt, vf, rfl, hvt, hvf⟩ := S
  obtain ⟨W0, hW0⟩ : ∃ W0, W0 = W.alloc (.cells #[vt, vf] 25) := ⟨_, rfl⟩
  have hbW : Below W.heap.size W W0 := by rw [hW0]; exact alloc_below _ _
  have k1 : W0.heap[W.heap.size]? = some (.cells #[vt, vf] 25 (0, 0)) := by rw [hW0]; exact alloc_new _ _
  have HP := hid (hp0.below hbW)
  have HT := hid (ht.on hbW)
  have HAL := hid (alive_of CR CN W0 HT.out)
  have HG := hid (fun wx (h : Aft W0 wx) => ShR.great_calls p _ 300 wx (HP.out.below h.below) ln (by decide) (by decide))
  obtain ⟨ta, tc, rfl⟩ := hvt.slice
  obtain ⟨fa, fc, rfl, _⟩ := hvf.slice
  have l0 : ∀ w', Aft W0 w' → w'.cell? ⟨W.heap.size, 0, none⟩ = some (.slice ta p.types.length tc) := later_cells k1 0 _ rfl
  have l1 : ∀ w', Aft W0 w' → w'.cell? ⟨W.heap.size, 1, none⟩ = some (.slice fa p.funcs.length fc) := later_cells k1 1 _ rfl
  have HBW := hid hbW
  have HW := hid hW0
  have h0 := Aft.refl W0
  have HIf := hid v64f
  have HIa := hid v64a
  have HIb := hid v64b
  clear hvt hvf hp0 hbW hW0 k1 z ln ht hok v64f fw v64a aw v64b bw
  generalize p.types.length = n1 at *
  generalize p.funcs.length = n2 at *
  go_enter Tryd.func6, Tryd.ntmps6
  go_wp2_with fail
  rw [← HW.out]
  refine HAL.out.mono ?_
  rintro e w1 ⟨rfl, hb1⟩
  have h1 := h0.go hb1
  have HG1 := hid (HG.out w1 h1)
  clear HAL hb1 HG
  go_wp2_with fail
  refine HG1.out.mono ?_
  rintro e w2 ⟨gb, rfl, hsmall, hb2⟩
  have h2 := h1.go hb2
  clear HG1 hb2
  cases gb with
  | true =>
    clear hsmall
    go_wp2
    go_ret
    exact ⟨rfl, h2.out HBW.out⟩
  | false =>
  have HS := hid (hsmall rfl)
  clear hsmall h1 h0
  have HC1 := hid (CR p f a b _ w2 (HP.out.below h2.below) (HT.out.on h2.below) HS.out HOK.out HIf.out HIa.out HIb.out)
  go_wp2_with fail
  refine HC1.out.mono ?_
  rintro e w3 ⟨rfl, hb3⟩
  have h3 := h2.go hb3
  have HC2 := hid (PredsC.e CP p f b _ w3 (HP.out.below h3.below) (HT.out.on h3.below) HS.out HOK.out HIf.out HIb.out)
  clear HC1 h2 hb3
  go_wp2_with fail
  refine HC2.out.mono ?_
  rintro e w4 ⟨u, rfl, hu, hb4⟩
  have h4 := h3.go hb4
  clear HC2 h3 hb4
  by_cases hz : rulesE p f a b = 0
  rotate_left
  · have hx := rulesA_bad hz
    have e0 : (rulesE p f a b != 0) = true := by simpa using hz
    have HE := hid (h4.out HBW.out)
    rw [hx]
    obtain ⟨q1, c1, rfl, _⟩ := ints_slice hu
    clear hu hz hx HS HOK HP HT HIf HIa HIb
    generalize (predsA p f b).length = m at *
    generalize rulesE p f a b = er at *
    generalize askB p f b = eb at *
    go_wp2
    go_ret
    exact ⟨rfl, HE.out⟩
  obtain ⟨h0, hr⟩ := rulesE_zero hz
  have hb0 := (askR_zero hr).1
  have hfz := (ask_zero h0).1
  obtain ⟨i, ha⟩ := at_of HOK.out h0
  obtain ⟨j, hbj⟩ := at_of HOK.out hb0
  have HAR := hid (fun h => rules_self_or ha hbj h0 hr h)
  have HAA := hid (fun h1 h2 => allB_all ha hbj h0 hr h1 h2)
  have HPR : predsA p f b = ints (aheadL (blsP p f) j) := by unfold predsA; rw [if_pos hb0, hbj.eq, Int.toNat_natCast]
  rw [HPR] at hu
  rw [hz, hb0]
  have HL2 : Hid ((aheadL (blsP p f) j).length ≤ 16) := by
    have := List.length_filter_le (fun x => decide (j ∈ succ (blsP p f) x)) (List.range (blsP p f).length)
    rw [List.length_range] at this
    exact Nat.le_trans this hbj.few
  have HLT2 : Hid (∀ x ∈ aheadL (blsP p f) j, x < (blsP p f).length) := fun x hx => (ahead_mem.1 hx).1
  have HFEW := hid hbj.few
  have HBS := hid (fun k (h : k < (aheadL (blsP p f) j).length) => allB_succ (p := p) (f := f) (a := a) h)
  have HB0 : Hid (allB p f a (aheadL (blsP p f) j) 0 = true) := by show _ = _; simp [allB]
  have HN := hid (fun (x : Nat) (hx : x < (blsP p f).length) wx (h : Aft W0 wx) => CN p f x _ wx (HP.out.below h.below) (HT.out.on h.below) HS.out HOK.out HIf.out ⟨by omega, by have := HFEW.out; omega⟩)
  have HRU := hid (fun (x : Nat) (hx : x < (blsP p f).length) wx (h : Aft W0 wx) => rules_of CR p f a x _ wx (HP.out.below h.below) (HT.out.on h.below) HS.out HOK.out HIf.out HIa.out ⟨by omega, by have := HFEW.out; omega⟩)
  have HU := hid hu
  obtain ⟨ua, uc, rfl, _⟩ := ints_slice hu
  rw [ints_length] at HU
  rw [ints_length]
  clear hu HPR hz h0 hr hb0 hfz ha hbj HS HOK HP HT HIf HIa HIb
  generalize aheadL (blsP p f) j = H at *
  generalize (blsP p f).length = nb at *
  generalize rulesA p f a b = xr at *
  go_wp2_with fail
  go_loopg [14, 15] H.length (fun gk al iv wr => ∃ k : Nat, k + gk = H.length ∧ iv = .int .i64 k ∧ al = .bool (allB p f a H k) ∧ Below w4.heap.size w4 wr)
  case atStart => exact ⟨0, by omega, rfl, by rw [HB0.out], Below.refl _ _⟩
  case round =>
    obtain ⟨k, hk, rfl, rfl, hbe⟩ := hrel
    have HK := hid hk
    have hA : Aft W0 wr := h4.go hbe
    have HBE := hid hbe
    by_cases hlt : k < H.length
    · have HLT := hid hlt
      have hnb := HBS.out k hlt
      obtain ⟨b2, o2, rfl, _, c2⟩ := TyP.ints_at (HU.out.below hbe) k (by rw [ints_length]; exact hlt)
      rw [nums_at hlt] at c2
      have hxl := HLT2.out _ (List.getElem_mem hlt)
      have HCN := hid (HN.out H[k] hxl wr.drew hA.drew)
      have HCR := hid (HRU.out H[k] hxl)
      have cs := later c2
      have hD := (Aft.refl wr).drew
      have r0 : ∀ w', Aft wr w' → w'.cell? ⟨W.heap.size, 0, none⟩ = some (.slice ta n1 tc) := fun w' h => l0 w' (hA.trans h)
      have r1 : ∀ w', Aft wr w' → w'.cell? ⟨W.heap.size, 1, none⟩ = some (.slice fa n2 fc) := fun w' h => l1 w' (hA.trans h)
      have hkl : (k : Int) < (H.length : Int) := by omega
      have hkb : k ≤ 9223372036854775806 := by have := HL2.out; omega
      clear hk hbe hxl
      generalize H[k] = x at *
      have HNB := hid hnb
      clear hnb c2
      generalize nextD p f (x : Int) = nd at *
      go_wp2_with fail
      go_region_held3 (fun w' => Aft wr w') (first | exact hD.go hb3 | exact hD)
        ((go_at_call 9; refine HCN.out.mono ?_; rintro e w5 ⟨rfl, hb3⟩))
      all_goals
        have h5 := hD.go hb3
        have hA5 := hA.trans h5
        have HBX := hid (HBE.out.trans (h5.below.mono HBE.out.size))
        have s0 : ∀ w', Aft w5 w' → w'.cell? ⟨W.heap.size, 0, none⟩ = some (.slice ta n1 tc) := fun w' h => r0 w' (h5.trans h)
        have s1 : ∀ w', Aft w5 w' → w'.cell? ⟨W.heap.size, 1, none⟩ = some (.slice fa n2 fc) := fun w' h => r1 w' (h5.trans h)
        have sx : ∀ w', Aft w5 w' → _ := fun w' h => cs w' (h5.trans h)
        have hD5 := (Aft.refl w5).drew
        have HRX := hid (HCR.out w5.drew (hA5.trans hD5))
        clear HCN hb3 r0 r1 cs hD h5 hA HCR hA5
        cases hal : allB p f a H k with
        | false =>
          rw [hal, Bool.false_and] at HNB
          clear hal s0 s1 sx HRX hD5
          generalize askR p f (x : Int) = er at *
          go_wp2_with fail
          go_quiet (fail)
          obtain ⟨wd, hwd⟩ : ∃ wd : World, wd = w5.drewN nq := ⟨_, rfl⟩
          have HBD : Hid (Below w4.heap.size w4 wd) := by show Below _ _ _; rw [hwd]; exact below_drewN HBX.out nq
          rw [← hwd]
          clear hwd
          go_wp2
          go_roundg (gk - 1)
          case measure => have := HK.out; have := HLT.out; omega
          case rel => exact ⟨k + 1, by have := HK.out; have := HLT.out; omega, by go_num, by rw [HNB.out], HBD.out⟩
        | true =>
          rw [hal, Bool.true_and] at HNB
          clear hal
          by_cases he : askR p f (x : Int) = 0
          · rw [he] at HNB
            rw [he]
            simp only [ne_eq, not_true_eq_false, decide_false, Bool.false_or] at HNB
            clear he
            generalize rulesA p f a (x : Int) = rx at *
            go_wp2_with fail
            go_region_held3 (fun w' => Aft w5 w') (first | exact hD5.go hb6 | exact hD5)
              ((go_at_call 15; refine HRX.out.mono ?_; rintro e w6 ⟨rfl, hb6⟩))
            all_goals
              have HBD := hid (HBX.out.trans ((hD5.go hb6).below.mono HBX.out.size))
              go_wp2
              go_roundg (gk - 1)
              case measure => have := HK.out; have := HLT.out; omega
              case rel => exact ⟨k + 1, by have := HK.out; have := HLT.out; omega, by go_num, by rw [HNB.out], HBD.out⟩
          · have e0 : (askR p f (x : Int) != 0) = true := by simpa using he
            rw [decide_eq_true he, Bool.true_or] at HNB
            have t0 := s0 w5 (Aft.refl w5)
            have t1 := s1 w5 (Aft.refl w5)
            have tx := sx w5 (Aft.refl w5)
            clear he s0 s1 sx HRX hD5
            generalize askR p f (x : Int) = er at *
            go_wp2_with fail
            go_quiet (fail)
            obtain ⟨wd, hwd⟩ : ∃ wd : World, wd = w5.drewN nq := ⟨_, rfl⟩
            have HBD : Hid (Below w4.heap.size w4 wd) := by show Below _ _ _; rw [hwd]; exact below_drewN HBX.out nq
            rw [← hwd]
            clear hwd
            go_wp2
            go_roundg (gk - 1)
            case measure => have := HK.out; have := HLT.out; omega
            case rel => exact ⟨k + 1, by have := HK.out; have := HLT.out; omega, by go_num, by rw [HNB.out], HBD.out⟩
    · obtain rfl : k = H.length := by omega
      have HE := hid (hA.out HBW.out)
      clear hk hbe hA HN HRU HBS HB0 HU
      by_cases hbb : b = 0
      · have hxr := HAR.out (.inl hbb)
        have d0 : (b == 0) = true := by simpa using hbb
        subst hxr
        clear HAR HAA
        by_cases hab : a = b
        · have d1 : (a == b) = true := by simpa using hab
          rw [decide_eq_true hab]
          clear hab hbb
          go_wp2
          go_ret
          exact ⟨rfl, HE.out⟩
        · have d1 : (a == b) = false := beq_false_of_ne hab
          rw [decide_eq_false hab]
          clear hab hbb
          go_wp2
          go_ret
          exact ⟨rfl, HE.out⟩
      · have d0 : (b == 0) = false := beq_false_of_ne hbb
        by_cases hab : a = b
        · have hxr := HAR.out (.inr hab)
          have d1 : (a == b) = true := by simpa using hab
          rw [decide_eq_true hab] at hxr
          subst hxr
          clear HAR HAA hbb hab
          go_wp2
          go_ret
          exact ⟨rfl, HE.out⟩
        · have d1 : (a == b) = false := beq_false_of_ne hab
          have hx := HAA.out hab hbb
          rw [hx]
          have d2 : (xr == xr) = true := by simp
          clear HAR HAA hbb hab hx
          go_wp2
          go_ret
          exact ⟨rfl, HE.out⟩
end Go.Proofs.YtkohdofbjoomjaaDoor.FeH
namespace Go.Proofs.YtkohdofbjoomjaaDoor.FeN
open Go.RowKit Go.Lib RwO SetP IntO TyM TyP TyB TyC ShM ShP ShA ShB ShC ShE ShI ShJ ShR ShOpen ShTB Aft Fresh LwT PgB FwM FwC FwP FwQ FwR FwB FwK FdM FdQ FdK FeO FeA FeP FeR

/-- on the way from ruler to ruler: at a block, or past block 0 -/
def Chain (l : List Bx) (i : Nat) (isv m : Bool) (k gk : Nat) (c : Int) : Prop := (∃ cn : Nat, c = cn ∧ FwM.Comes (succ l) 0 cn ∧ gk = rulersN l cn ∧ k + gk ≤ 16 ∧ isv = (m || ruledL l i cn)) ∨ (c = -1 ∧ isv = m ∧ k ≤ 17 ∧ gk = 0)
theorem chain_zero {l : List Bx} (h : Low l) (h0 : 0 < l.length) {i k gk : Nat} {isv m : Bool} (hi : isv = (m || ruledL l i 0)) (hk : k + gk ≤ 16) (hg : gk = rulersN l 0) : Chain l i isv (m || decide ((0 : Int) = (i : Int))) (k + 1) 0 (-1) ∧ 0 < gk := by
  refine ⟨.inr ⟨rfl, ?_, by omega, rfl⟩, hg ▸ rulers_pos h h0 .here⟩
  rw [hi, ruled_first h h0 i]
  congr 1
  exact decide_eq_decide.2 (by omega)
theorem chain_next {l : List Bx} (h : Low l) (h0 : 0 < l.length) {i k gk c n : Nat} {isv m : Bool} (hc : FwM.Comes (succ l) 0 c) (hn : NextTo (succ l) n c) (hi : isv = (m || ruledL l i c)) (hk : k + gk ≤ 16) (hg : gk = rulersN l c) : Chain l i isv (m || decide ((c : Int) = (i : Int))) (k + 1) (rulersN l n) n ∧ rulersN l n < gk := by
  have hl := rulers_less h h0 hn
  refine ⟨.inl ⟨n, rfl, hn.2.1.reach, rfl, by omega, ?_⟩, by omega⟩
  rw [hi, ruled_next h h0 hc hn i, Bool.or_assoc]
  congr 2
  exact decide_eq_decide.2 (by omega)

set_option maxRecDepth 100000 in
set_option maxHeartbeats 16000000 in
theorem walk_of (CR : RulesC) (CN : NextDC) (W : World) (v : Value) (p : Px) (S : PrAt W v p) (_ : ∀ y ∈ p.types, TyOk y) (z : ∀ y ∈ p.funcs, FxOk y) (ln : Lens p) (f : Int) (fw : (Lit.int .i64 f).wf = true) (a : Int) (aw : (Lit.int .i64 a).wf = true) (b : Int) (bw : (Lit.int .i64 b).wf = true) (ht : Tab W) :
    Calls Tryd.prog 5 #[v, .int .i64 f, .int .i64 a, .int .i64 b] W fun e W' => e = .returned (.bool true) ∧ Below W.heap.size W W' := by
  have v64f : I64 f := i64_wf fw
  have v64a : I64 a := i64_wf aw
  have v64b : I64 b := i64_wf bw
  have hok : POk p := fun f hf b hb => ⟨(z f hf b hb).1, fun y hy => ((z f hf b hb).2 y hy).1⟩
  have HOK := hid hok
  have hp0 := S
  obtain ⟨vt, vf, rfl, hvt, hvf⟩ := S
  obtain ⟨W0, hW0⟩ : ∃ W0, W0 = W.alloc (.cells #[vt, vf] 25) := ⟨_, rfl⟩
  have hbW : Below W.heap.size W W0 := by rw [hW0]; exact alloc_below _ _
  have k1 : W0.heap[W.heap.size]? = some (.cells #[vt, vf] 25 (0, 0)) := by rw [hW0]; exact alloc_new _ _
  have HP := hid (hp0.below hbW)
  have HT := hid (ht.on hbW)
  have HAL := hid (alive_of CR CN W0 HT.out)
  have HG := hid (fun wx (h : Aft W0 wx) => ShR.great_calls p _ 300 wx (HP.out.below h.below) ln (by decide) (by decide))
  obtain ⟨ta, tc, rfl⟩ := hvt.slice
  obtain ⟨fa, fc, rfl, _⟩ := hvf.slice
  have l0 : ∀ w', Aft W0 w' → w'.cell? ⟨W.heap.size, 0, none⟩ = some (.slice ta p.types.length tc) := later_cells k1 0 _ rfl
  have l1 : ∀ w', Aft W0 w' → w'.cell? ⟨W.heap.size, 1, none⟩ = some (.slice fa p.funcs.length fc) := later_cells k1 1 _ rfl
  have HBW := hid hbW
  have HW := hid hW0
  have h0 := Aft.refl W0
  have HIf := hid v64f
  have HIa := hid v64a
  have HIb := hid v64b
  clear hvt hvf hp0 hbW hW0 k1 z ln ht hok v64f fw v64a aw v64b bw
  generalize p.types.length = n1 at *
  generalize p.funcs.length = n2 at *
  go_enter Tryd.func5, Tryd.ntmps5
  go_wp2_with fail
  rw [← HW.out]
  refine HAL.out.mono ?_
  rintro e w1 ⟨rfl, hb1⟩
  have h1 := h0.go hb1
  have HG1 := hid (HG.out w1 h1)
  clear HAL hb1 HG
  go_wp2_with fail
  refine HG1.out.mono ?_
  rintro e w2 ⟨gb, rfl, hsmall, hb2⟩
  have h2 := h1.go hb2
  clear HG1 hb2
  cases gb with
  | true =>
    clear hsmall
    go_wp2
    go_ret
    exact ⟨rfl, h2.out HBW.out⟩
  | false =>
  have HS := hid (hsmall rfl)
  clear hsmall h1 h0
  have HC1 := hid (CR p f a b _ w2 (HP.out.below h2.below) (HT.out.on h2.below) HS.out HOK.out HIf.out HIa.out HIb.out)
  go_wp2_with fail
  refine HC1.out.mono ?_
  rintro e w3 ⟨rfl, hb3⟩
  have h3 := h2.go hb3
  clear HC1 h2 hb3
  by_cases hz : rulesE p f a b = 0
  rotate_left
  · have hx := rulesA_bad hz
    have e0 : (rulesE p f a b != 0) = true := by simpa using hz
    have HE := hid (h3.out HBW.out)
    rw [hx]
    clear hz hx HS HOK HP HT HIf HIa HIb
    generalize rulesE p f a b = er at *
    go_wp2
    go_ret
    exact ⟨rfl, HE.out⟩
  obtain ⟨h0, hr⟩ := rulesE_zero hz
  have hb0 := (askR_zero hr).1
  have hfz := (ask_zero h0).1
  obtain ⟨i, ha⟩ := at_of HOK.out h0
  obtain ⟨j, hbj⟩ := at_of HOK.out hb0
  have hae := ha.eq
  have hbe := hbj.eq
  have HX : Hid (rulesA p f a b = ruledL (blsP p f) i j) := by show _ = _; unfold rulesA; rw [if_pos hz, hae, hbe, Int.toNat_natCast, Int.toNat_natCast]
  have hreach := hbj.reached hr
  have HLOW := hid hbj.low
  have HPOS := hid hbj.pos
  have HN := hid (fun (c : Nat) (hc : FwM.Comes (succ (blsP p f)) 0 c) wx (h : Aft W0 wx) => CN p f c _ wx (HP.out.below h.below) (HT.out.on h.below) HS.out HOK.out HIf.out ⟨by omega, by have := hc.lt (succ_lt HLOW.out) HPOS.out; have := hbj.few; omega⟩)
  have HAS : Hid (∀ c : Nat, FwM.Comes (succ (blsP p f)) 0 c → askR p f (c : Int) = 0) := fun c hc => askR_in (ask_yes hfz (by omega) (by have := hc.lt (succ_lt HLOW.out) HPOS.out; omega)) (by rw [Int.toNat_natCast]; exact (reached_mem HLOW.out HPOS.out c).2 hc)
  have HND : Hid (∀ c : Nat, FwM.Comes (succ (blsP p f)) 0 c → nextD p f (c : Int) = rulerL (blsP p f) c) := fun c hc => by unfold nextD; rw [if_pos (HAS.out c hc), Int.toNat_natCast]
  have HRZ : Hid (rulerL (blsP p f) 0 = -1) := ruler_zero HLOW.out HPOS.out
  have HRS := hid (fun (c : Nat) (hc : FwM.Comes (succ (blsP p f)) 0 c) (hne : c ≠ 0) => ruler_some HLOW.out HPOS.out hc hne)
  have HST : Hid (Chain (blsP p f) i (ruledL (blsP p f) i j) false 0 (rulersN (blsP p f) j) (j : Int)) := .inl ⟨j, rfl, hreach, rfl, by have := rulers_le (blsP p f) j; have := hbj.few; omega, by simp⟩
  have HCZ := hid (fun (k gk : Nat) (m : Bool) h1 h2 h3 => chain_zero HLOW.out HPOS.out (i := i) (isv := ruledL (blsP p f) i j) (m := m) (k := k) (gk := gk) h1 h2 h3)
  have HCN := hid (fun (k gk c n : Nat) (m : Bool) (hc : FwM.Comes (succ (blsP p f)) 0 c) (hn : NextTo (succ (blsP p f)) n c) h1 h2 h3 => chain_next HLOW.out HPOS.out (i := i) (isv := ruledL (blsP p f) i j) (m := m) (k := k) (gk := gk) hc hn h1 h2 h3)
  have HLT : Hid (∀ c : Nat, FwM.Comes (succ (blsP p f)) 0 c → c ≤ 16) := fun c hc => by have := hc.lt (succ_lt HLOW.out) HPOS.out; have := hbj.few; omega
  have HRP : Hid (∀ c : Nat, FwM.Comes (succ (blsP p f)) 0 c → 0 < rulersN (blsP p f) c) := fun c hc => rulers_pos HLOW.out HPOS.out hc
  rw [HX.out, hz]
  subst hae
  subst hbe
  clear HX hz h0 hr hb0 hfz ha hbj hreach HS HOK HP HT HIf HIa HIb
  generalize ruledL (blsP p f) i j = isv at *
  go_wp2_with fail
  go_loopg [12, 13, 14] (rulersN (blsP p f) j) (fun gk mv cv iv wr => ∃ (k : Nat) (m : Bool) (c : Int), iv = .int .i64 k ∧ mv = .bool m ∧ cv = .int .i64 c ∧ Chain (blsP p f) i isv m k gk c ∧ Below w3.heap.size w3 wr)
  case atStart => exact ⟨0, false, j, rfl, rfl, rfl, HST.out, Below.refl _ _⟩
  case round =>
    obtain ⟨k, m, c, rfl, rfl, rfl, hch, hbe⟩ := hrel
    have hA : Aft W0 wr := h3.go hbe
    have HBE := hid hbe
    rcases hch with ⟨cn, rfl, hc, hg, hkg, his⟩ | ⟨rfl, his, hk, hg⟩
    · have HG := hid hg
      have HKG := hid hkg
      have HIS := hid his
      have HC := hid hc
      have hrp := HRP.out cn hc
      have hk20 : k < 20 := by omega
      have hk21 : (k : Int) < 20 := by omega
      have hcn0 : (0 : Int) ≤ (cn : Int) := by omega
      have hcl := HLT.out cn hc
      have HCC := hid (HN.out cn hc wr hA)
      rw [HAS.out cn hc, HND.out cn hc] at HCC
      obtain ⟨m2, hm2⟩ : ∃ m2, m2 = (m || decide ((cn : Int) = (i : Int))) := ⟨_, rfl⟩
      by_cases hc0 : cn = 0
      · subst hc0
        rw [HRZ.out] at HCC
        have hz1 := HCZ.out k gk m his hkg hg
        change m2 = (m || decide ((0 : Int) = (i : Int))) at hm2
        rw [← hm2] at hz1
        have HZ := hid hz1
        clear hc hg hkg his hbe hz1
        rw [show ((0 : Nat) : Int) = 0 from rfl]
        rw [show ((0 : Nat) : Int) = 0 from rfl] at HCC
        cases m with
        | true =>
          rw [Bool.true_or] at hm2
          subst hm2
          go_wp2_with fail
          refine HCC.out.mono ?_
          rintro e w5 ⟨rfl, hb5⟩
          have HB5 := hid (HBE.out.trans (hb5.mono HBE.out.size))
          clear HCC hb5
          go_wp2
          go_roundg 0
          case measure => exact HZ.out.2
          case rel => exact ⟨k + 1, true, -1, by go_num, rfl, rfl, HZ.out.1, HB5.out⟩
        | false =>
          rw [Bool.false_or] at hm2
          by_cases hi : (0 : Int) = (i : Int)
          · have d0 : ((0 : Int) == (i : Int)) = true := by simpa using hi
            rw [decide_eq_true hi] at hm2
            subst hm2
            clear hi
            go_wp2_with fail
            refine HCC.out.mono ?_
            rintro e w5 ⟨rfl, hb5⟩
            have HB5 := hid (HBE.out.trans (hb5.mono HBE.out.size))
            clear HCC hb5
            go_wp2
            go_roundg 0
            case measure => exact HZ.out.2
            case rel => exact ⟨k + 1, true, -1, by go_num, rfl, rfl, HZ.out.1, HB5.out⟩
          · have d0 : ((0 : Int) == (i : Int)) = false := beq_false_of_ne hi
            rw [decide_eq_false hi] at hm2
            subst hm2
            clear hi
            go_wp2_with fail
            refine HCC.out.mono ?_
            rintro e w5 ⟨rfl, hb5⟩
            have HB5 := hid (HBE.out.trans (hb5.mono HBE.out.size))
            clear HCC hb5
            go_wp2
            go_roundg 0
            case measure => exact HZ.out.2
            case rel => exact ⟨k + 1, false, -1, by go_num, rfl, rfl, HZ.out.1, HB5.out⟩
      · obtain ⟨n, hn1, hn2⟩ := HRS.out cn hc hc0
        rw [hn1] at HCC
        have hz1 := HCN.out k gk cn n m hc hn2 his hkg hg
        rw [← hm2] at hz1
        have HZ := hid hz1
        have hne : ((n : Int) == (cn : Int)) = false := beq_false_of_ne (by have := hn2.1; omega)
        have hnn : ¬ ((n : Int) < 0) := by omega
        have hnl := HLT.out n hn2.2.1.reach
        clear hc hg hkg his hbe hz1 hn1 hn2 hc0
        cases m with
        | true =>
          rw [Bool.true_or] at hm2
          subst hm2
          go_wp2_with fail
          refine HCC.out.mono ?_
          rintro e w5 ⟨rfl, hb5⟩
          have HB5 := hid (HBE.out.trans (hb5.mono HBE.out.size))
          clear HCC hb5
          go_wp2
          go_roundg (rulersN (blsP p f) n)
          case measure => exact HZ.out.2
          case rel => exact ⟨k + 1, true, n, by go_num, rfl, rfl, HZ.out.1, HB5.out⟩
        | false =>
          rw [Bool.false_or] at hm2
          by_cases hi : (cn : Int) = (i : Int)
          · have d0 : ((cn : Int) == (i : Int)) = true := by simpa using hi
            rw [decide_eq_true hi] at hm2
            subst hm2
            clear hi
            go_wp2_with fail
            refine HCC.out.mono ?_
            rintro e w5 ⟨rfl, hb5⟩
            have HB5 := hid (HBE.out.trans (hb5.mono HBE.out.size))
            clear HCC hb5
            go_wp2
            go_roundg (rulersN (blsP p f) n)
            case measure => exact HZ.out.2
            case rel => exact ⟨k + 1, true, n, by go_num, rfl, rfl, HZ.out.1, HB5.out⟩
          · have d0 : ((cn : Int) == (i : Int)) = false := beq_false_of_ne hi
            rw [decide_eq_false hi] at hm2
            subst hm2
            clear hi
            go_wp2_with fail
            refine HCC.out.mono ?_
            rintro e w5 ⟨rfl, hb5⟩
            have HB5 := hid (HBE.out.trans (hb5.mono HBE.out.size))
            clear HCC hb5
            go_wp2
            go_roundg (rulersN (blsP p f) n)
            case measure => exact HZ.out.2
            case rel => exact ⟨k + 1, false, n, by go_num, rfl, rfl, HZ.out.1, HB5.out⟩
    · have hk20 : k < 20 := by omega
      have hk21 : (k : Int) < 20 := by omega
      have HE := hid (hA.out HBW.out)
      have hmm : (m == m) = true := by simp
      subst his
      clear hbe hA hg
      go_wp2
      go_ret
      exact ⟨rfl, HE.out⟩
end Go.Proofs.YtkohdofbjoomjaaDoor.FeN
namespace Go.Proofs.YtkohdofbjoomjaaDoor.FeW
open Go.RowKit Go.Lib RwO SetP IntO TyM TyP TyB TyC ShM ShP ShA ShB ShC ShE ShI ShJ ShR ShOpen ShTB Aft Fresh LwT PgB FwM FwC FwP FwQ FwR FwB FwK FdM FdQ FdK FeO FeA FeP FeR

set_option maxRecDepth 100000 in
set_option maxHeartbeats 16000000 in
theorem walk_of (CR : RulesC) (CN : NextDC) (W : World) (v : Value) (p : Px) (S : PrAt W v p) (_ : ∀ y ∈ p.types, TyOk y) (z : ∀ y ∈ p.funcs, FxOk y) (ln : Lens p) (f : Int) (fw : (Lit.int .i64 f).wf = true) (a : Int) (aw : (Lit.int .i64 a).wf = true) (b : Int) (bw : (Lit.int .i64 b).wf = true) (c : Int) (cw : (Lit.int .i64 c).wf = true) (ht : Tab W) :
    Calls Tryd.prog 4 #[v, .int .i64 f, .agg #[.int .i64 a, .int .i64 b, .int .i64 c]] W fun e W' => e = .returned (.bool true) ∧ Below W.heap.size W W' := by
  have v64f : I64 f := i64_wf fw
  have v64a : I64 a := i64_wf aw
  have v64b : I64 b := i64_wf bw
  have v64c : I64 c := i64_wf cw
  have hok : POk p := fun f hf b hb => ⟨(z f hf b hb).1, fun y hy => ((z f hf b hb).2 y hy).1⟩
  have HOK := hid hok
  have hp0 := S
  obtain ⟨vt, vf, rfl, hvt, hvf⟩ := S
  obtain ⟨W0, hW0⟩ : ∃ W0, W0 = (W.alloc (.cells #[vt, vf] 25)).alloc (.cells #[.int .i64 a, .int .i64 b, .int .i64 c] 37) := ⟨_, rfl⟩
  have hbW : Below W.heap.size W W0 := by rw [hW0]; exact (alloc_below _ _).alloc (by simp only [World.size_alloc]; omega) _
  have k1 : W0.heap[W.heap.size]? = some (.cells #[vt, vf] 25 (0, 0)) := by rw [hW0]; exact alloc_old (alloc_new _ _) _
  have k2 : W0.heap[W.heap.size + 1]? = some (.cells #[.int .i64 a, .int .i64 b, .int .i64 c] 37 (0, 0)) := by
    rw [hW0]
    have := alloc_new (W.alloc (.cells #[vt, vf] 25)) (.cells #[.int .i64 a, .int .i64 b, .int .i64 c] 37)
    rwa [World.size_alloc] at this
  have HP := hid (hp0.below hbW)
  have HT := hid (ht.on hbW)
  have HAL := hid (alive_of CR CN W0 HT.out)
  have HG := hid (fun wx (h : Aft W0 wx) => ShR.great_calls p _ 300 wx (HP.out.below h.below) ln (by decide) (by decide))
  obtain ⟨ta, tc, rfl⟩ := hvt.slice
  obtain ⟨fa, fc, rfl, _⟩ := hvf.slice
  have l0 : ∀ w', Aft W0 w' → w'.cell? ⟨W.heap.size, 0, none⟩ = some (.slice ta p.types.length tc) := later_cells k1 0 _ rfl
  have l1 : ∀ w', Aft W0 w' → w'.cell? ⟨W.heap.size, 1, none⟩ = some (.slice fa p.funcs.length fc) := later_cells k1 1 _ rfl
  have HBW := hid hbW
  have HW := hid hW0
  have x0 := later_cells k2 0 _ rfl
  have x1 := later_cells k2 1 _ rfl
  have x2 := later_cells k2 2 _ rfl
  have h0 := Aft.refl W0
  have HIf := hid v64f
  have HIa := hid v64a
  have HIb := hid v64b
  have HIc := hid v64c
  clear hvt hvf hp0 hbW hW0 k1 z ln ht hok k2 v64f fw v64a aw v64b bw v64c cw
  generalize p.types.length = n1 at *
  generalize p.funcs.length = n2 at *
  go_enter Tryd.func4, Tryd.ntmps4
  go_wp2_with fail
  rw [← HW.out]
  refine HAL.out.mono ?_
  rintro e w1 ⟨rfl, hb1⟩
  have h1 := h0.go hb1
  have HG1 := hid (HG.out w1 h1)
  clear HAL hb1 HG
  go_wp2_with fail
  refine HG1.out.mono ?_
  rintro e w2 ⟨gb, rfl, hsmall, hb2⟩
  have h2 := h1.go hb2
  clear HG1 hb2
  cases gb with
  | true =>
    clear hsmall
    go_wp2
    go_ret
    exact ⟨rfl, h2.out HBW.out⟩
  | false =>
  have HS := hid (hsmall rfl)
  clear hsmall h1 h0
  have HR := hid (fun (x y : Int) (hx : I64 x) (hy : I64 y) wx (h : Aft W0 wx) => rules_of CR p f x y _ wx (HP.out.below h.below) (HT.out.on h.below) HS.out HOK.out HIf.out hx hy)
  have HC1 := hid (fun wx (h : Aft W0 wx) => CN p f c _ wx (HP.out.below h.below) (HT.out.on h.below) HS.out HOK.out HIf.out HIc.out)
  have HZ := hid (fun (h : askR p f c = 0) => law_zero HOK.out h)
  have HSF := hid (fun (h : askR p f c = 0) => law_self HOK.out h)
  have HTR := hid (fun (h : rulesA p f a b = true) (k : rulesA p f b c = true) => law_trans HOK.out h k)
  have HAN := hid (fun (h : rulesA p f a c = true) (k : a ≠ c) => law_anti HOK.out h k)
  have HTO := hid (fun (h : rulesA p f a c = true) (k : rulesA p f b c = true) (j : rulesA p f a b = false) => law_total HOK.out h k j)
  have HBD : Hid (askR p f c ≠ 0 → rulesA p f a c = false) := fun h => rulesA_bad (rulesE_ask h)
  have R0 := hid (fun wx h => HR.out 0 c ⟨by decide, by decide⟩ HIc.out wx h)
  have RCC := hid (fun wx h => HR.out c c HIc.out HIc.out wx h)
  have RAB := hid (fun wx h => HR.out a b HIa.out HIb.out wx h)
  have RBC := hid (fun wx h => HR.out b c HIb.out HIc.out wx h)
  have RAC := hid (fun wx h => HR.out a c HIa.out HIc.out wx h)
  have RCA := hid (fun wx h => HR.out c a HIc.out HIa.out wx h)
  have RBA := hid (fun wx h => HR.out b a HIb.out HIa.out wx h)
  clear HR HS HOK HP HT HIf HIa HIb HIc
  generalize askR p f c = er at *
  generalize nextD p f c = nd at *
  generalize rulesA p f 0 c = xz at *
  generalize rulesA p f c c = xcc at *
  generalize rulesA p f a b = xab at *
  generalize rulesA p f b c = xbc at *
  generalize rulesA p f a c = xac at *
  generalize rulesA p f c a = xca at *
  generalize rulesA p f b a = xba at *
  have y0 := x0 _ h2; have y1 := x1 _ h2; have y2 := x2 _ h2
  go_wp2_with fail
  go_quiet (fail)
  obtain ⟨wd, hwd⟩ : ∃ wd : World, wd = w2.drewN nq := ⟨_, rfl⟩
  have hd : Aft W0 wd := by rw [hwd]; exact below_drewN h2 nq
  rw [← hwd]
  have HC2 := hid (HC1.out wd hd)
  clear hwd HC1 h2 y0 y1 y2
  go_wp2_with fail
  refine HC2.out.mono ?_
  rintro e w3 ⟨rfl, hb3⟩
  have h3 := hd.go hb3
  clear HC2 hb3 hd
  by_cases he : er = 0
  rotate_left
  · have e0 : (er != 0) = true := by simpa using he
    have hx := HBD.out he
    subst hx
    have HQ := hid (RAC.out w3 h3)
    clear R0 RCC RAB RBC RAC RCA RBA HZ HSF HTR HAN HTO HBD he
    go_wp2_with fail
    refine HQ.out.mono ?_
    rintro e w4 ⟨rfl, hb4⟩
    have HE := hid ((h3.go hb4).out HBW.out)
    clear HQ hb4
    go_wp2
    go_ret
    exact ⟨rfl, HE.out⟩
  subst he
  have hx0 := HZ.out rfl
  have hxc := HSF.out rfl
  subst hx0
  subst hxc
  clear HZ HSF HBD
  have HIMP := hid (fun (h : xab = true) (k : xbc = true) => HTR.out h k)
  clear HTR
  cases xab with
  | true =>
    cases xbc with
    | true =>
      cases xac with
      | true =>
        by_cases hac : a = c
        · have d1 : (a != c) = false := by simpa using hac
          clear HIMP HAN HTO hac
          have HQ := hid (R0.out w3 h3)
          go_wp2_with fail
          refine HQ.out.mono ?_
          rintro e w4 ⟨rfl, hb⟩
          have h4 := h3.go hb
          clear hb HQ
          have HQ := hid (RCC.out w4 h4)
          go_wp2_with fail
          refine HQ.out.mono ?_
          rintro e w5 ⟨rfl, hb⟩
          have h5 := h4.go hb
          clear hb HQ
          have HQ := hid (RAB.out w5 h5)
          go_wp2_with fail
          refine HQ.out.mono ?_
          rintro e w6 ⟨rfl, hb⟩
          have h6 := h5.go hb
          clear hb HQ
          have HQ := hid (RBC.out w6 h6)
          go_wp2_with fail
          refine HQ.out.mono ?_
          rintro e w7 ⟨rfl, hb⟩
          have h7 := h6.go hb
          clear hb HQ
          have HQ := hid (RAC.out w7 h7)
          go_wp2_with fail
          refine HQ.out.mono ?_
          rintro e w8 ⟨rfl, hb⟩
          have h8 := h7.go hb
          clear hb HQ
          have HQ := hid (RAC.out w8 h8)
          go_wp2_with fail
          refine HQ.out.mono ?_
          rintro e w9 ⟨rfl, hb⟩
          have h9 := h8.go hb
          clear hb HQ
          have HQ := hid (RBC.out w9 h9)
          go_wp2_with fail
          refine HQ.out.mono ?_
          rintro e w10 ⟨rfl, hb⟩
          have h10 := h9.go hb
          clear hb HQ
          have HQ := hid (RAB.out w10 h10)
          go_wp2_with fail
          refine HQ.out.mono ?_
          rintro e w11 ⟨rfl, hb⟩
          have h11 := h10.go hb
          clear hb HQ
          have HE := hid (h11.out HBW.out)
          clear R0 RCC RAB RBC RAC RCA RBA
          go_wp2
          go_ret
          exact ⟨rfl, HE.out⟩
        · have d1 : (a != c) = true := by simpa using hac
          have hca := HAN.out rfl hac
          subst hca
          clear HIMP HAN HTO hac
          have HQ := hid (R0.out w3 h3)
          go_wp2_with fail
          refine HQ.out.mono ?_
          rintro e w4 ⟨rfl, hb⟩
          have h4 := h3.go hb
          clear hb HQ
          have HQ := hid (RCC.out w4 h4)
          go_wp2_with fail
          refine HQ.out.mono ?_
          rintro e w5 ⟨rfl, hb⟩
          have h5 := h4.go hb
          clear hb HQ
          have HQ := hid (RAB.out w5 h5)
          go_wp2_with fail
          refine HQ.out.mono ?_
          rintro e w6 ⟨rfl, hb⟩
          have h6 := h5.go hb
          clear hb HQ
          have HQ := hid (RBC.out w6 h6)
          go_wp2_with fail
          refine HQ.out.mono ?_
          rintro e w7 ⟨rfl, hb⟩
          have h7 := h6.go hb
          clear hb HQ
          have HQ := hid (RAC.out w7 h7)
          go_wp2_with fail
          refine HQ.out.mono ?_
          rintro e w8 ⟨rfl, hb⟩
          have h8 := h7.go hb
          clear hb HQ
          have HQ := hid (RAC.out w8 h8)
          go_wp2_with fail
          refine HQ.out.mono ?_
          rintro e w9 ⟨rfl, hb⟩
          have h9 := h8.go hb
          clear hb HQ
          have HQ := hid (RCA.out w9 h9)
          go_wp2_with fail
          refine HQ.out.mono ?_
          rintro e w10 ⟨rfl, hb⟩
          have h10 := h9.go hb
          clear hb HQ
          have HQ := hid (RAC.out w10 h10)
          go_wp2_with fail
          refine HQ.out.mono ?_
          rintro e w11 ⟨rfl, hb⟩
          have h11 := h10.go hb
          clear hb HQ
          have HQ := hid (RBC.out w11 h11)
          go_wp2_with fail
          refine HQ.out.mono ?_
          rintro e w12 ⟨rfl, hb⟩
          have h12 := h11.go hb
          clear hb HQ
          have HQ := hid (RAB.out w12 h12)
          go_wp2_with fail
          refine HQ.out.mono ?_
          rintro e w13 ⟨rfl, hb⟩
          have h13 := h12.go hb
          clear hb HQ
          have HE := hid (h13.out HBW.out)
          clear R0 RCC RAB RBC RAC RCA RBA
          go_wp2
          go_ret
          exact ⟨rfl, HE.out⟩
      | false =>
        exact absurd (HIMP.out rfl rfl) (by simp)
    | false =>
      cases xac with
      | true =>
        by_cases hac : a = c
        · have d1 : (a != c) = false := by simpa using hac
          clear HIMP HAN HTO hac
          have HQ := hid (R0.out w3 h3)
          go_wp2_with fail
          refine HQ.out.mono ?_
          rintro e w4 ⟨rfl, hb⟩
          have h4 := h3.go hb
          clear hb HQ
          have HQ := hid (RCC.out w4 h4)
          go_wp2_with fail
          refine HQ.out.mono ?_
          rintro e w5 ⟨rfl, hb⟩
          have h5 := h4.go hb
          clear hb HQ
          have HQ := hid (RAB.out w5 h5)
          go_wp2_with fail
          refine HQ.out.mono ?_
          rintro e w6 ⟨rfl, hb⟩
          have h6 := h5.go hb
          clear hb HQ
          have HQ := hid (RBC.out w6 h6)
          go_wp2_with fail
          refine HQ.out.mono ?_
          rintro e w7 ⟨rfl, hb⟩
          have h7 := h6.go hb
          clear hb HQ
          have HQ := hid (RAC.out w7 h7)
          go_wp2_with fail
          refine HQ.out.mono ?_
          rintro e w8 ⟨rfl, hb⟩
          have h8 := h7.go hb
          clear hb HQ
          have HQ := hid (RBC.out w8 h8)
          go_wp2_with fail
          refine HQ.out.mono ?_
          rintro e w9 ⟨rfl, hb⟩
          have h9 := h8.go hb
          clear hb HQ
          have HE := hid (h9.out HBW.out)
          clear R0 RCC RAB RBC RAC RCA RBA
          go_wp2
          go_ret
          exact ⟨rfl, HE.out⟩
        · have d1 : (a != c) = true := by simpa using hac
          have hca := HAN.out rfl hac
          subst hca
          clear HIMP HAN HTO hac
          have HQ := hid (R0.out w3 h3)
          go_wp2_with fail
          refine HQ.out.mono ?_
          rintro e w4 ⟨rfl, hb⟩
          have h4 := h3.go hb
          clear hb HQ
          have HQ := hid (RCC.out w4 h4)
          go_wp2_with fail
          refine HQ.out.mono ?_
          rintro e w5 ⟨rfl, hb⟩
          have h5 := h4.go hb
          clear hb HQ
          have HQ := hid (RAB.out w5 h5)
          go_wp2_with fail
          refine HQ.out.mono ?_
          rintro e w6 ⟨rfl, hb⟩
          have h6 := h5.go hb
          clear hb HQ
          have HQ := hid (RBC.out w6 h6)
          go_wp2_with fail
          refine HQ.out.mono ?_
          rintro e w7 ⟨rfl, hb⟩
          have h7 := h6.go hb
          clear hb HQ
          have HQ := hid (RAC.out w7 h7)
          go_wp2_with fail
          refine HQ.out.mono ?_
          rintro e w8 ⟨rfl, hb⟩
          have h8 := h7.go hb
          clear hb HQ
          have HQ := hid (RCA.out w8 h8)
          go_wp2_with fail
          refine HQ.out.mono ?_
          rintro e w9 ⟨rfl, hb⟩
          have h9 := h8.go hb
          clear hb HQ
          have HQ := hid (RAC.out w9 h9)
          go_wp2_with fail
          refine HQ.out.mono ?_
          rintro e w10 ⟨rfl, hb⟩
          have h10 := h9.go hb
          clear hb HQ
          have HQ := hid (RBC.out w10 h10)
          go_wp2_with fail
          refine HQ.out.mono ?_
          rintro e w11 ⟨rfl, hb⟩
          have h11 := h10.go hb
          clear hb HQ
          have HE := hid (h11.out HBW.out)
          clear R0 RCC RAB RBC RAC RCA RBA
          go_wp2
          go_ret
          exact ⟨rfl, HE.out⟩
      | false =>
        by_cases hac : a = c
        · have d1 : (a != c) = false := by simpa using hac
          clear HIMP HAN HTO hac
          have HQ := hid (R0.out w3 h3)
          go_wp2_with fail
          refine HQ.out.mono ?_
          rintro e w4 ⟨rfl, hb⟩
          have h4 := h3.go hb
          clear hb HQ
          have HQ := hid (RCC.out w4 h4)
          go_wp2_with fail
          refine HQ.out.mono ?_
          rintro e w5 ⟨rfl, hb⟩
          have h5 := h4.go hb
          clear hb HQ
          have HQ := hid (RAB.out w5 h5)
          go_wp2_with fail
          refine HQ.out.mono ?_
          rintro e w6 ⟨rfl, hb⟩
          have h6 := h5.go hb
          clear hb HQ
          have HQ := hid (RBC.out w6 h6)
          go_wp2_with fail
          refine HQ.out.mono ?_
          rintro e w7 ⟨rfl, hb⟩
          have h7 := h6.go hb
          clear hb HQ
          have HQ := hid (RAC.out w7 h7)
          go_wp2_with fail
          refine HQ.out.mono ?_
          rintro e w8 ⟨rfl, hb⟩
          have h8 := h7.go hb
          clear hb HQ
          have HE := hid (h8.out HBW.out)
          clear R0 RCC RAB RBC RAC RCA RBA
          go_wp2
          go_ret
          exact ⟨rfl, HE.out⟩
        · have d1 : (a != c) = true := by simpa using hac
          clear HIMP HAN HTO hac
          have HQ := hid (R0.out w3 h3)
          go_wp2_with fail
          refine HQ.out.mono ?_
          rintro e w4 ⟨rfl, hb⟩
          have h4 := h3.go hb
          clear hb HQ
          have HQ := hid (RCC.out w4 h4)
          go_wp2_with fail
          refine HQ.out.mono ?_
          rintro e w5 ⟨rfl, hb⟩
          have h5 := h4.go hb
          clear hb HQ
          have HQ := hid (RAB.out w5 h5)
          go_wp2_with fail
          refine HQ.out.mono ?_
          rintro e w6 ⟨rfl, hb⟩
          have h6 := h5.go hb
          clear hb HQ
          have HQ := hid (RBC.out w6 h6)
          go_wp2_with fail
          refine HQ.out.mono ?_
          rintro e w7 ⟨rfl, hb⟩
          have h7 := h6.go hb
          clear hb HQ
          have HQ := hid (RAC.out w7 h7)
          go_wp2_with fail
          refine HQ.out.mono ?_
          rintro e w8 ⟨rfl, hb⟩
          have h8 := h7.go hb
          clear hb HQ
          have HQ := hid (RAC.out w8 h8)
          go_wp2_with fail
          refine HQ.out.mono ?_
          rintro e w9 ⟨rfl, hb⟩
          have h9 := h8.go hb
          clear hb HQ
          have HE := hid (h9.out HBW.out)
          clear R0 RCC RAB RBC RAC RCA RBA
          go_wp2
          go_ret
          exact ⟨rfl, HE.out⟩
  | false =>
    cases xbc with
    | true =>
      cases xac with
      | true =>
        have hba := HTO.out rfl rfl rfl
        subst hba
        by_cases hac : a = c
        · have d1 : (a != c) = false := by simpa using hac
          clear HIMP HAN HTO hac
          have HQ := hid (R0.out w3 h3)
          go_wp2_with fail
          refine HQ.out.mono ?_
          rintro e w4 ⟨rfl, hb⟩
          have h4 := h3.go hb
          clear hb HQ
          have HQ := hid (RCC.out w4 h4)
          go_wp2_with fail
          refine HQ.out.mono ?_
          rintro e w5 ⟨rfl, hb⟩
          have h5 := h4.go hb
          clear hb HQ
          have HQ := hid (RAB.out w5 h5)
          go_wp2_with fail
          refine HQ.out.mono ?_
          rintro e w6 ⟨rfl, hb⟩
          have h6 := h5.go hb
          clear hb HQ
          have HQ := hid (RAC.out w6 h6)
          go_wp2_with fail
          refine HQ.out.mono ?_
          rintro e w7 ⟨rfl, hb⟩
          have h7 := h6.go hb
          clear hb HQ
          have HQ := hid (RBC.out w7 h7)
          go_wp2_with fail
          refine HQ.out.mono ?_
          rintro e w8 ⟨rfl, hb⟩
          have h8 := h7.go hb
          clear hb HQ
          have HQ := hid (RAB.out w8 h8)
          go_wp2_with fail
          refine HQ.out.mono ?_
          rintro e w9 ⟨rfl, hb⟩
          have h9 := h8.go hb
          clear hb HQ
          have HQ := hid (RBA.out w9 h9)
          go_wp2_with fail
          refine HQ.out.mono ?_
          rintro e w10 ⟨rfl, hb⟩
          have h10 := h9.go hb
          clear hb HQ
          have HE := hid (h10.out HBW.out)
          clear R0 RCC RAB RBC RAC RCA RBA
          go_wp2
          go_ret
          exact ⟨rfl, HE.out⟩
        · have d1 : (a != c) = true := by simpa using hac
          have hca := HAN.out rfl hac
          subst hca
          clear HIMP HAN HTO hac
          have HQ := hid (R0.out w3 h3)
          go_wp2_with fail
          refine HQ.out.mono ?_
          rintro e w4 ⟨rfl, hb⟩
          have h4 := h3.go hb
          clear hb HQ
          have HQ := hid (RCC.out w4 h4)
          go_wp2_with fail
          refine HQ.out.mono ?_
          rintro e w5 ⟨rfl, hb⟩
          have h5 := h4.go hb
          clear hb HQ
          have HQ := hid (RAB.out w5 h5)
          go_wp2_with fail
          refine HQ.out.mono ?_
          rintro e w6 ⟨rfl, hb⟩
          have h6 := h5.go hb
          clear hb HQ
          have HQ := hid (RAC.out w6 h6)
          go_wp2_with fail
          refine HQ.out.mono ?_
          rintro e w7 ⟨rfl, hb⟩
          have h7 := h6.go hb
          clear hb HQ
          have HQ := hid (RCA.out w7 h7)
          go_wp2_with fail
          refine HQ.out.mono ?_
          rintro e w8 ⟨rfl, hb⟩
          have h8 := h7.go hb
          clear hb HQ
          have HQ := hid (RAC.out w8 h8)
          go_wp2_with fail
          refine HQ.out.mono ?_
          rintro e w9 ⟨rfl, hb⟩
          have h9 := h8.go hb
          clear hb HQ
          have HQ := hid (RBC.out w9 h9)
          go_wp2_with fail
          refine HQ.out.mono ?_
          rintro e w10 ⟨rfl, hb⟩
          have h10 := h9.go hb
          clear hb HQ
          have HQ := hid (RAB.out w10 h10)
          go_wp2_with fail
          refine HQ.out.mono ?_
          rintro e w11 ⟨rfl, hb⟩
          have h11 := h10.go hb
          clear hb HQ
          have HQ := hid (RBA.out w11 h11)
          go_wp2_with fail
          refine HQ.out.mono ?_
          rintro e w12 ⟨rfl, hb⟩
          have h12 := h11.go hb
          clear hb HQ
          have HE := hid (h12.out HBW.out)
          clear R0 RCC RAB RBC RAC RCA RBA
          go_wp2
          go_ret
          exact ⟨rfl, HE.out⟩
      | false =>
        by_cases hac : a = c
        · have d1 : (a != c) = false := by simpa using hac
          clear HIMP HAN HTO hac
          have HQ := hid (R0.out w3 h3)
          go_wp2_with fail
          refine HQ.out.mono ?_
          rintro e w4 ⟨rfl, hb⟩
          have h4 := h3.go hb
          clear hb HQ
          have HQ := hid (RCC.out w4 h4)
          go_wp2_with fail
          refine HQ.out.mono ?_
          rintro e w5 ⟨rfl, hb⟩
          have h5 := h4.go hb
          clear hb HQ
          have HQ := hid (RAB.out w5 h5)
          go_wp2_with fail
          refine HQ.out.mono ?_
          rintro e w6 ⟨rfl, hb⟩
          have h6 := h5.go hb
          clear hb HQ
          have HQ := hid (RAC.out w6 h6)
          go_wp2_with fail
          refine HQ.out.mono ?_
          rintro e w7 ⟨rfl, hb⟩
          have h7 := h6.go hb
          clear hb HQ
          have HE := hid (h7.out HBW.out)
          clear R0 RCC RAB RBC RAC RCA RBA
          go_wp2
          go_ret
          exact ⟨rfl, HE.out⟩
        · have d1 : (a != c) = true := by simpa using hac
          clear HIMP HAN HTO hac
          have HQ := hid (R0.out w3 h3)
          go_wp2_with fail
          refine HQ.out.mono ?_
          rintro e w4 ⟨rfl, hb⟩
          have h4 := h3.go hb
          clear hb HQ
          have HQ := hid (RCC.out w4 h4)
          go_wp2_with fail
          refine HQ.out.mono ?_
          rintro e w5 ⟨rfl, hb⟩
          have h5 := h4.go hb
          clear hb HQ
          have HQ := hid (RAB.out w5 h5)
          go_wp2_with fail
          refine HQ.out.mono ?_
          rintro e w6 ⟨rfl, hb⟩
          have h6 := h5.go hb
          clear hb HQ
          have HQ := hid (RAC.out w6 h6)
          go_wp2_with fail
          refine HQ.out.mono ?_
          rintro e w7 ⟨rfl, hb⟩
          have h7 := h6.go hb
          clear hb HQ
          have HQ := hid (RAC.out w7 h7)
          go_wp2_with fail
          refine HQ.out.mono ?_
          rintro e w8 ⟨rfl, hb⟩
          have h8 := h7.go hb
          clear hb HQ
          have HE := hid (h8.out HBW.out)
          clear R0 RCC RAB RBC RAC RCA RBA
          go_wp2
          go_ret
          exact ⟨rfl, HE.out⟩
    | false =>
      cases xac with
      | true =>
        by_cases hac : a = c
        · have d1 : (a != c) = false := by simpa using hac
          clear HIMP HAN HTO hac
          have HQ := hid (R0.out w3 h3)
          go_wp2_with fail
          refine HQ.out.mono ?_
          rintro e w4 ⟨rfl, hb⟩
          have h4 := h3.go hb
          clear hb HQ
          have HQ := hid (RCC.out w4 h4)
          go_wp2_with fail
          refine HQ.out.mono ?_
          rintro e w5 ⟨rfl, hb⟩
          have h5 := h4.go hb
          clear hb HQ
          have HQ := hid (RAB.out w5 h5)
          go_wp2_with fail
          refine HQ.out.mono ?_
          rintro e w6 ⟨rfl, hb⟩
          have h6 := h5.go hb
          clear hb HQ
          have HQ := hid (RAC.out w6 h6)
          go_wp2_with fail
          refine HQ.out.mono ?_
          rintro e w7 ⟨rfl, hb⟩
          have h7 := h6.go hb
          clear hb HQ
          have HQ := hid (RBC.out w7 h7)
          go_wp2_with fail
          refine HQ.out.mono ?_
          rintro e w8 ⟨rfl, hb⟩
          have h8 := h7.go hb
          clear hb HQ
          have HE := hid (h8.out HBW.out)
          clear R0 RCC RAB RBC RAC RCA RBA
          go_wp2
          go_ret
          exact ⟨rfl, HE.out⟩
        · have d1 : (a != c) = true := by simpa using hac
          have hca := HAN.out rfl hac
          subst hca
          clear HIMP HAN HTO hac
          have HQ := hid (R0.out w3 h3)
          go_wp2_with fail
          refine HQ.out.mono ?_
          rintro e w4 ⟨rfl, hb⟩
          have h4 := h3.go hb
          clear hb HQ
          have HQ := hid (RCC.out w4 h4)
          go_wp2_with fail
          refine HQ.out.mono ?_
          rintro e w5 ⟨rfl, hb⟩
          have h5 := h4.go hb
          clear hb HQ
          have HQ := hid (RAB.out w5 h5)
          go_wp2_with fail
          refine HQ.out.mono ?_
          rintro e w6 ⟨rfl, hb⟩
          have h6 := h5.go hb
          clear hb HQ
          have HQ := hid (RAC.out w6 h6)
          go_wp2_with fail
          refine HQ.out.mono ?_
          rintro e w7 ⟨rfl, hb⟩
          have h7 := h6.go hb
          clear hb HQ
          have HQ := hid (RCA.out w7 h7)
          go_wp2_with fail
          refine HQ.out.mono ?_
          rintro e w8 ⟨rfl, hb⟩
          have h8 := h7.go hb
          clear hb HQ
          have HQ := hid (RAC.out w8 h8)
          go_wp2_with fail
          refine HQ.out.mono ?_
          rintro e w9 ⟨rfl, hb⟩
          have h9 := h8.go hb
          clear hb HQ
          have HQ := hid (RBC.out w9 h9)
          go_wp2_with fail
          refine HQ.out.mono ?_
          rintro e w10 ⟨rfl, hb⟩
          have h10 := h9.go hb
          clear hb HQ
          have HE := hid (h10.out HBW.out)
          clear R0 RCC RAB RBC RAC RCA RBA
          go_wp2
          go_ret
          exact ⟨rfl, HE.out⟩
      | false =>
        by_cases hac : a = c
        · have d1 : (a != c) = false := by simpa using hac
          clear HIMP HAN HTO hac
          have HQ := hid (R0.out w3 h3)
          go_wp2_with fail
          refine HQ.out.mono ?_
          rintro e w4 ⟨rfl, hb⟩
          have h4 := h3.go hb
          clear hb HQ
          have HQ := hid (RCC.out w4 h4)
          go_wp2_with fail
          refine HQ.out.mono ?_
          rintro e w5 ⟨rfl, hb⟩
          have h5 := h4.go hb
          clear hb HQ
          have HQ := hid (RAB.out w5 h5)
          go_wp2_with fail
          refine HQ.out.mono ?_
          rintro e w6 ⟨rfl, hb⟩
          have h6 := h5.go hb
          clear hb HQ
          have HQ := hid (RAC.out w6 h6)
          go_wp2_with fail
          refine HQ.out.mono ?_
          rintro e w7 ⟨rfl, hb⟩
          have h7 := h6.go hb
          clear hb HQ
          have HE := hid (h7.out HBW.out)
          clear R0 RCC RAB RBC RAC RCA RBA
          go_wp2
          go_ret
          exact ⟨rfl, HE.out⟩
        · have d1 : (a != c) = true := by simpa using hac
          clear HIMP HAN HTO hac
          have HQ := hid (R0.out w3 h3)
          go_wp2_with fail
          refine HQ.out.mono ?_
          rintro e w4 ⟨rfl, hb⟩
          have h4 := h3.go hb
          clear hb HQ
          have HQ := hid (RCC.out w4 h4)
          go_wp2_with fail
          refine HQ.out.mono ?_
          rintro e w5 ⟨rfl, hb⟩
          have h5 := h4.go hb
          clear hb HQ
          have HQ := hid (RAB.out w5 h5)
          go_wp2_with fail
          refine HQ.out.mono ?_
          rintro e w6 ⟨rfl, hb⟩
          have h6 := h5.go hb
          clear hb HQ
          have HQ := hid (RAC.out w6 h6)
          go_wp2_with fail
          refine HQ.out.mono ?_
          rintro e w7 ⟨rfl, hb⟩
          have h7 := h6.go hb
          clear hb HQ
          have HQ := hid (RAC.out w7 h7)
          go_wp2_with fail
          refine HQ.out.mono ?_
          rintro e w8 ⟨rfl, hb⟩
          have h8 := h7.go hb
          clear hb HQ
          have HE := hid (h8.out HBW.out)
          clear R0 RCC RAB RBC RAC RCA RBA
          go_wp2
          go_ret
          exact ⟨rfl, HE.out⟩
end Go.Proofs.YtkohdofbjoomjaaDoor.FeW
