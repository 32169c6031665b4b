/- Walk over the statement BitsLaws. -/
import Derived.Test.YtecfjjpdlohmnaaDoorBitHelp
import Derived.Test.YtecfjjpdlohmnaaDoorBitCount
import Derived.WalkLawsBesides
namespace Go.Proofs.YtecfjjpdlohmnaaDoor.SetLawsW
open Go.RowKit Go.Lib SetP SetO SetNum SetIn SetWith SetT SetW2 SetF SetG SetC SetSame BitCheck BitHas BitOnes BitTz BitList BitSame BitClone BitOf BitOr BitOps BitHelp BitCount

theorem same_eq (v u : Value) (s t : List Wd) (w : World) (hs : SetAt w v s) (ht : SetAt w u t) (e : s = t) :
    Calls Tryd.prog 23 #[v, u] w fun e w' => e = .returned (.bool true) ∧ Below w.heap.size w w' := by
  have := BitSame.same_calls v u s t w hs ht
  rw [decide_eq_true e] at this
  exact this
theorem or_at (va vb : Value) (a b : List Wd) (w : World) (ha : SetAt w va a) (hb : SetAt w vb b) (ma : MayW a) (mb : MayW b) : Calls Tryd.prog 11 #[va, vb] w (OwnSR (unionS a b) 0 w) := by
  have := BitOr.or_calls va vb a b w ha hb (wok ma.win) (wok mb.win)
  rw [or_eq ma mb, tog_zero ma mb] at this
  exact this
theorem and_at (va vb : Value) (a b : List Wd) (w : World) (ha : SetAt w va a) (hb : SetAt w vb b) (ma : MayW a) (mb : MayW b) : Calls Tryd.prog 12 #[va, vb] w (OwnSR (meetS a b) 0 w) := by
  have := BitOr.and_calls va vb a b w ha hb (wok ma.win) (wok mb.win)
  rw [and_eq ma mb, tog_zero ma mb] at this
  exact this
theorem minus_at (va vb : Value) (a b : List Wd) (w : World) (ha : SetAt w va a) (hb : SetAt w vb b) (ma : MayW a) (mb : MayW b) : Calls Tryd.prog 25 #[va, vb] w (OwnSR (minusS a b) 0 w) := by
  have := BitOr.minus_calls va vb a b w ha hb (wok ma.win) (wok mb.win)
  rw [less_eq ma mb, tog_zero ma mb] at this
  exact this
theorem size_at (v : Value) (s : List Wd) (w : World) (hs : SetAt w v s) (hm : MayW s) (n : Nat) (hn : (numbers s).length = n) :
    Calls Tryd.prog 13 #[v] w fun e w' => e = .returned (.tuple #[.int .i64 (n : Int), .int .i64 0]) ∧ Below w.heap.size w w' := by
  have := BitOnes.size_calls v s w hs (wok hm.win)
  rw [chk_yes hm, show sizeI s = (n : Int) from (if_pos hm).trans (by rw [hn])] at this
  exact this
theorem num_len {s : List Wd} (h : MayW s) : (numbers s).length ≤ 1048576 := by
  have := may_length h
  have := numbers_length s
  omega

set_option maxRecDepth 100000 in
set_option maxHeartbeats 8000000 in
theorem walk (w : World) (va : Value) (a : List Wd) (ha : SetAt w va a) (hoka : ∀ x ∈ a, WdOk x) (vb : Value) (b : List Wd) (hb : SetAt w vb b) (hokb : ∀ x ∈ b, WdOk x) (vc : Value) (c : List Wd) (hc : SetAt w vc c) (hokc : ∀ x ∈ c, WdOk x) (ht : Tab w) :
    Calls Tryd.prog 7 #[va, vb, vc] w fun e w' => e = .returned (.bool true) ∧ Below w.heap.size w w' := by
  obtain ⟨oa, capa, rfl⟩ : ∃ ao cap, va = .slice ao a.length cap := by obtain ⟨ao, cap, rfl, _⟩ := ha; exact ⟨ao, cap, rfl⟩
  have Ha0 : Hid (∀ w', Below w.heap.size w w' → SetAt w' (.slice oa a.length capa) a) := fun w' h => ha.below h
  have HOa := hid hoka
  obtain ⟨ob, capb, rfl⟩ : ∃ ao cap, vb = .slice ao b.length cap := by obtain ⟨ao, cap, rfl, _⟩ := hb; exact ⟨ao, cap, rfl⟩
  have Hb0 : Hid (∀ w', Below w.heap.size w w' → SetAt w' (.slice ob b.length capb) b) := fun w' h => hb.below h
  have HOb := hid hokb
  obtain ⟨oc, capc, rfl⟩ : ∃ ao cap, vc = .slice ao c.length cap := by obtain ⟨ao, cap, rfl, _⟩ := hc; exact ⟨ao, cap, rfl⟩
  have Hc0 : Hid (∀ w', Below w.heap.size w w' → SetAt w' (.slice oc c.length capc) c) := fun w' h => hc.below h
  have HOc := hid hokc
  have HT := hid ht
  have HAL := hid (alive_calls w ht)
  clear ha hoka hb hokb hc hokc ht
  by_cases h0 : 10 < a.length
  · go_enter Tryd.func7, Tryd.ntmps7
    go_wp2_with fail
    refine (HAL.out).mono ?_
    rintro e w1 ⟨rfl, b1⟩
    go_wp2
    go_ret
    exact ⟨rfl, b1⟩
  by_cases h1 : 10 < b.length
  · go_enter Tryd.func7, Tryd.ntmps7
    go_wp2_with fail
    refine (HAL.out).mono ?_
    rintro e w1 ⟨rfl, b1⟩
    go_wp2
    go_ret
    exact ⟨rfl, b1⟩
  by_cases h2 : 10 < c.length
  · go_enter Tryd.func7, Tryd.ntmps7
    go_wp2_with fail
    refine (HAL.out).mono ?_
    rintro e w1 ⟨rfl, b1⟩
    go_wp2
    go_ret
    exact ⟨rfl, b1⟩
  by_cases ma : MayW a
  rotate_left
  · have Na := hid (chk_no ma)
    clear ma
    go_enter Tryd.func7, Tryd.ntmps7
    go_wp2_with fail
    refine (HAL.out).mono ?_
    rintro e w1 ⟨rfl, b1⟩
    have C1 := hid b1
    clear b1
    go_wp2_with fail
    refine (BitCheck.check_calls _ a w1 (Ha0.out _ C1.out) HOa.out).mono ?_
    rw [Na.out]
    rintro e w2 ⟨rfl, b2⟩
    have C2 := hid (C1.out.trans (b2.mono C1.out.size))
    clear b2 C1
    go_wp2
    go_ret
    exact ⟨rfl, C2.out⟩
  by_cases mb : MayW b
  rotate_left
  · have Nb := hid (chk_no mb)
    have Na := hid (chk_yes ma)
    clear ma mb
    go_enter Tryd.func7, Tryd.ntmps7
    go_wp2_with fail
    refine (HAL.out).mono ?_
    rintro e w1 ⟨rfl, b1⟩
    have C1 := hid b1
    clear b1
    go_wp2_with fail
    refine (BitCheck.check_calls _ a w1 (Ha0.out _ C1.out) HOa.out).mono ?_
    rw [Na.out]
    rintro e w2 ⟨rfl, b2⟩
    have C2 := hid (C1.out.trans (b2.mono C1.out.size))
    clear b2 C1
    go_wp2_with fail
    refine (BitCheck.check_calls _ b w2 (Hb0.out _ C2.out) HOb.out).mono ?_
    rw [Nb.out]
    rintro e w3 ⟨rfl, b3⟩
    have C3 := hid (C2.out.trans (b3.mono C2.out.size))
    clear b3 C2
    go_wp2
    go_ret
    exact ⟨rfl, C3.out⟩
  by_cases mc : MayW c
  rotate_left
  · have Nc := hid (chk_no mc)
    have Na := hid (chk_yes ma)
    have Nb := hid (chk_yes mb)
    clear ma mb mc
    go_enter Tryd.func7, Tryd.ntmps7
    go_wp2_with fail
    refine (HAL.out).mono ?_
    rintro e w1 ⟨rfl, b1⟩
    have C1 := hid b1
    clear b1
    go_wp2_with fail
    refine (BitCheck.check_calls _ a w1 (Ha0.out _ C1.out) HOa.out).mono ?_
    rw [Na.out]
    rintro e w2 ⟨rfl, b2⟩
    have C2 := hid (C1.out.trans (b2.mono C1.out.size))
    clear b2 C1
    go_wp2_with fail
    refine (BitCheck.check_calls _ b w2 (Hb0.out _ C2.out) HOb.out).mono ?_
    rw [Nb.out]
    rintro e w3 ⟨rfl, b3⟩
    have C3 := hid (C2.out.trans (b3.mono C2.out.size))
    clear b3 C2
    go_wp2_with fail
    refine (BitCheck.check_calls _ c w3 (Hc0.out _ C3.out) HOc.out).mono ?_
    rw [Nc.out]
    rintro e w4 ⟨rfl, b4⟩
    have C4 := hid (C3.out.trans (b4.mono C3.out.size))
    clear b4 C3
    go_wp2
    go_ret
    exact ⟨rfl, C4.out⟩
  have Ma := hid ma
  have Na := hid (chk_yes ma)
  have Mb := hid mb
  have Nb := hid (chk_yes mb)
  have Mc := hid mc
  have Nc := hid (chk_yes mc)
  have Mab := hid (union_may ma mb)
  have Mbc := hid (union_may mb mc)
  have Mm := hid (meet_may (b := b) ma)
  have Mo := hid (meet_may (b := c) ma)
  have Ml := hid (minus_may (b := b) ma)
  have Mr := hid (union_may ma (union_may mb mc))
  have Mq := hid (union_may (union_may ma mb) mc)
  have Md := hid (meet_may (b := unionS b c) ma)
  have Ms := hid (union_may (meet_may (b := b) ma) (meet_may (b := c) ma))
  have Mg := hid (minus_may (b := meetS a b) ma)
  have Mw := hid (union_may (minus_may (b := b) ma) (meet_may (b := b) ma))
  have Mba := hid (union_may mb ma)
  have E1 := hid (union_comm ma mb)
  have E2 := hid (union_assoc ma mb mc)
  have E3 := hid (meet_union ma mb mc)
  have E4 := hid (minus_meet (b := b) ma)
  have E5 := hid (whole (b := b) ma)
  obtain ⟨q1, hq1⟩ : ∃ q, (numbers a).length = q := ⟨_, rfl⟩
  obtain ⟨q2, hq2⟩ : ∃ q, (numbers b).length = q := ⟨_, rfl⟩
  obtain ⟨q3, hq3⟩ : ∃ q, (numbers (unionS a b)).length = q := ⟨_, rfl⟩
  obtain ⟨q4, hq4⟩ : ∃ q, (numbers (meetS a b)).length = q := ⟨_, rfl⟩
  have hsum := sizes ma mb
  rw [hq1, hq2, hq3, hq4] at hsum
  have l1 := num_len ma
  have l2 := num_len mb
  have l3 := num_len Mab.out
  have l4 := num_len Mm.out
  rw [hq1] at l1
  rw [hq2] at l2
  rw [hq3] at l3
  rw [hq4] at l4
  have HEQ : Hid (((q1 : Int) + (q2 : Int) == (q3 : Int) + (q4 : Int)) = true) := by show _ = _; simp; omega
  have Q1 := hid hq1
  have Q2 := hid hq2
  have Q3 := hid hq3
  have Q4 := hid hq4
  have LE : Hid (q1 ≤ 1048576 ∧ q2 ≤ 1048576 ∧ q3 ≤ 1048576 ∧ q4 ≤ 1048576) := ⟨l1, l2, l3, l4⟩
  clear ma mb mc hq1 hq2 hq3 hq4 hsum l1 l2 l3 l4
  have C0 := hid (Below.refl w.heap.size w)
  go_enter Tryd.func7, Tryd.ntmps7
  go_wp2_with fail
  refine (HAL.out).mono ?_
  rintro e w1 ⟨rfl, b1⟩
  have C1 := hid (C0.out.trans (b1.mono C0.out.size))
  clear C0
  clear b1
  go_wp2_with fail
  refine (BitCheck.check_calls _ a w1 (Ha0.out _ C1.out) HOa.out).mono ?_
  rw [Na.out]
  rintro e w2 ⟨rfl, b2⟩
  have C2 := hid (C1.out.trans (b2.mono C1.out.size))
  clear C1
  clear b2
  go_wp2_with fail
  refine (BitCheck.check_calls _ b w2 (Hb0.out _ C2.out) HOb.out).mono ?_
  rw [Nb.out]
  rintro e w3 ⟨rfl, b3⟩
  have C3 := hid (C2.out.trans (b3.mono C2.out.size))
  clear C2
  clear b3
  go_wp2_with fail
  refine (BitCheck.check_calls _ c w3 (Hc0.out _ C3.out) HOc.out).mono ?_
  rw [Nc.out]
  rintro e w4 ⟨rfl, b4⟩
  have C4 := hid (C3.out.trans (b4.mono C3.out.size))
  clear C3
  clear b4
  go_wp2_with fail
  refine (or_at _ _ a b w4 (Ha0.out _ C4.out) (Hb0.out _ C4.out) Ma.out Mb.out).mono ?_
  rintro e w5 ⟨vab, nab, rfl, own, b5⟩
  have C5 := hid (C4.out.trans (b5.mono C4.out.size))
  clear C4
  have Sab_5 := hid (set_own own Mab.out)
  clear own
  clear b5
  go_wp2_with fail
  refine (or_at _ _ b a w5 (Hb0.out _ C5.out) (Ha0.out _ C5.out) Mb.out Ma.out).mono ?_
  rintro e w6 ⟨vba, nba, rfl, own, b6⟩
  have Sab_6 := hid (Sab_5.out.below b6)
  have C6 := hid (C5.out.trans (b6.mono C5.out.size))
  clear C5 Sab_5
  have Sba_6 := hid (set_own own Mba.out)
  clear own
  clear b6
  go_wp2_with fail
  refine (or_at _ _ b c w6 (Hb0.out _ C6.out) (Hc0.out _ C6.out) Mb.out Mc.out).mono ?_
  rintro e w7 ⟨vbc, nbc, rfl, own, b7⟩
  have Sab_7 := hid (Sab_6.out.below b7)
  have Sba_7 := hid (Sba_6.out.below b7)
  have C7 := hid (C6.out.trans (b7.mono C6.out.size))
  clear C6 Sab_6 Sba_6
  have Sbc_7 := hid (set_own own Mbc.out)
  clear own
  clear b7
  go_wp2_with fail
  refine (or_at _ _ (unionS a b) c w7 Sab_7.out (Hc0.out _ C7.out) Mab.out Mc.out).mono ?_
  rintro e w8 ⟨vl, nl, rfl, own, b8⟩
  have Sab_8 := hid (Sab_7.out.below b8)
  have Sba_8 := hid (Sba_7.out.below b8)
  have Sbc_8 := hid (Sbc_7.out.below b8)
  have C8 := hid (C7.out.trans (b8.mono C7.out.size))
  clear C7 Sab_7 Sba_7 Sbc_7
  have Sl_8 := hid (set_own own Mq.out)
  clear own
  clear b8
  go_wp2_with fail
  refine (or_at _ _ a (unionS b c) w8 (Ha0.out _ C8.out) Sbc_8.out Ma.out Mbc.out).mono ?_
  rintro e w9 ⟨vr, nr, rfl, own, b9⟩
  have Sab_9 := hid (Sab_8.out.below b9)
  have Sba_9 := hid (Sba_8.out.below b9)
  have Sbc_9 := hid (Sbc_8.out.below b9)
  have Sl_9 := hid (Sl_8.out.below b9)
  have C9 := hid (C8.out.trans (b9.mono C8.out.size))
  clear C8 Sab_8 Sba_8 Sbc_8 Sl_8
  have Sr_9 := hid (set_own own Mr.out)
  clear own
  clear b9
  go_wp2_with fail
  refine (and_at _ _ a b w9 (Ha0.out _ C9.out) (Hb0.out _ C9.out) Ma.out Mb.out).mono ?_
  rintro e w10 ⟨vm, nm, rfl, own, b10⟩
  have Sab_10 := hid (Sab_9.out.below b10)
  have Sba_10 := hid (Sba_9.out.below b10)
  have Sbc_10 := hid (Sbc_9.out.below b10)
  have Sl_10 := hid (Sl_9.out.below b10)
  have Sr_10 := hid (Sr_9.out.below b10)
  have C10 := hid (C9.out.trans (b10.mono C9.out.size))
  clear C9 Sab_9 Sba_9 Sbc_9 Sl_9 Sr_9
  have Sm_10 := hid (set_own own Mm.out)
  clear own
  clear b10
  go_wp2_with fail
  refine (and_at _ _ a c w10 (Ha0.out _ C10.out) (Hc0.out _ C10.out) Ma.out Mc.out).mono ?_
  rintro e w11 ⟨vo, no, rfl, own, b11⟩
  have Sab_11 := hid (Sab_10.out.below b11)
  have Sba_11 := hid (Sba_10.out.below b11)
  have Sbc_11 := hid (Sbc_10.out.below b11)
  have Sl_11 := hid (Sl_10.out.below b11)
  have Sr_11 := hid (Sr_10.out.below b11)
  have Sm_11 := hid (Sm_10.out.below b11)
  have C11 := hid (C10.out.trans (b11.mono C10.out.size))
  clear C10 Sab_10 Sba_10 Sbc_10 Sl_10 Sr_10 Sm_10
  have So_11 := hid (set_own own Mo.out)
  clear own
  clear b11
  go_wp2_with fail
  refine (and_at _ _ a (unionS b c) w11 (Ha0.out _ C11.out) Sbc_11.out Ma.out Mbc.out).mono ?_
  rintro e w12 ⟨vd, nd, rfl, own, b12⟩
  have Sab_12 := hid (Sab_11.out.below b12)
  have Sba_12 := hid (Sba_11.out.below b12)
  have Sbc_12 := hid (Sbc_11.out.below b12)
  have Sl_12 := hid (Sl_11.out.below b12)
  have Sr_12 := hid (Sr_11.out.below b12)
  have Sm_12 := hid (Sm_11.out.below b12)
  have So_12 := hid (So_11.out.below b12)
  have C12 := hid (C11.out.trans (b12.mono C11.out.size))
  clear C11 Sab_11 Sba_11 Sbc_11 Sl_11 Sr_11 Sm_11 So_11
  have Sd_12 := hid (set_own own Md.out)
  clear own
  clear b12
  clear Sbc_12
  go_wp2_with fail
  refine (or_at _ _ (meetS a b) (meetS a c) w12 Sm_12.out So_12.out Mm.out Mo.out).mono ?_
  rintro e w13 ⟨vs, ns, rfl, own, b13⟩
  have Sab_13 := hid (Sab_12.out.below b13)
  have Sba_13 := hid (Sba_12.out.below b13)
  have Sl_13 := hid (Sl_12.out.below b13)
  have Sr_13 := hid (Sr_12.out.below b13)
  have Sm_13 := hid (Sm_12.out.below b13)
  have So_13 := hid (So_12.out.below b13)
  have Sd_13 := hid (Sd_12.out.below b13)
  have C13 := hid (C12.out.trans (b13.mono C12.out.size))
  clear C12 Sab_12 Sba_12 Sl_12 Sr_12 Sm_12 So_12 Sd_12
  have Ss_13 := hid (set_own own Ms.out)
  clear own
  clear b13
  clear So_13
  go_wp2_with fail
  refine (minus_at _ _ a b w13 (Ha0.out _ C13.out) (Hb0.out _ C13.out) Ma.out Mb.out).mono ?_
  rintro e w14 ⟨ve, ne, rfl, own, b14⟩
  have Sab_14 := hid (Sab_13.out.below b14)
  have Sba_14 := hid (Sba_13.out.below b14)
  have Sl_14 := hid (Sl_13.out.below b14)
  have Sr_14 := hid (Sr_13.out.below b14)
  have Sm_14 := hid (Sm_13.out.below b14)
  have Sd_14 := hid (Sd_13.out.below b14)
  have Ss_14 := hid (Ss_13.out.below b14)
  have C14 := hid (C13.out.trans (b14.mono C13.out.size))
  clear C13 Sab_13 Sba_13 Sl_13 Sr_13 Sm_13 Sd_13 Ss_13
  have Se_14 := hid (set_own own Ml.out)
  clear own
  clear b14
  go_wp2_with fail
  refine (minus_at _ _ a (meetS a b) w14 (Ha0.out _ C14.out) Sm_14.out Ma.out Mm.out).mono ?_
  rintro e w15 ⟨vg, ng, rfl, own, b15⟩
  have Sab_15 := hid (Sab_14.out.below b15)
  have Sba_15 := hid (Sba_14.out.below b15)
  have Sl_15 := hid (Sl_14.out.below b15)
  have Sr_15 := hid (Sr_14.out.below b15)
  have Sm_15 := hid (Sm_14.out.below b15)
  have Sd_15 := hid (Sd_14.out.below b15)
  have Ss_15 := hid (Ss_14.out.below b15)
  have Se_15 := hid (Se_14.out.below b15)
  have C15 := hid (C14.out.trans (b15.mono C14.out.size))
  clear C14 Sab_14 Sba_14 Sl_14 Sr_14 Sm_14 Sd_14 Ss_14 Se_14
  have Sg_15 := hid (set_own own Mg.out)
  clear own
  clear b15
  go_wp2_with fail
  refine (or_at _ _ (minusS a b) (meetS a b) w15 Se_15.out Sm_15.out Ml.out Mm.out).mono ?_
  rintro e w16 ⟨vw, nw, rfl, own, b16⟩
  have Sab_16 := hid (Sab_15.out.below b16)
  have Sba_16 := hid (Sba_15.out.below b16)
  have Sl_16 := hid (Sl_15.out.below b16)
  have Sr_16 := hid (Sr_15.out.below b16)
  have Sm_16 := hid (Sm_15.out.below b16)
  have Sd_16 := hid (Sd_15.out.below b16)
  have Ss_16 := hid (Ss_15.out.below b16)
  have Se_16 := hid (Se_15.out.below b16)
  have Sg_16 := hid (Sg_15.out.below b16)
  have C16 := hid (C15.out.trans (b16.mono C15.out.size))
  clear C15 Sab_15 Sba_15 Sl_15 Sr_15 Sm_15 Sd_15 Ss_15 Se_15 Sg_15
  have Sw_16 := hid (set_own own Mw.out)
  clear own
  clear b16
  go_wp2_with fail
  refine (size_at _ a w16 (Ha0.out _ C16.out) Ma.out q1 Q1.out).mono ?_
  rintro e w17 ⟨rfl, b17⟩
  have Sab_17 := hid (Sab_16.out.below b17)
  have Sba_17 := hid (Sba_16.out.below b17)
  have Sl_17 := hid (Sl_16.out.below b17)
  have Sr_17 := hid (Sr_16.out.below b17)
  have Sm_17 := hid (Sm_16.out.below b17)
  have Sd_17 := hid (Sd_16.out.below b17)
  have Ss_17 := hid (Ss_16.out.below b17)
  have Se_17 := hid (Se_16.out.below b17)
  have Sg_17 := hid (Sg_16.out.below b17)
  have Sw_17 := hid (Sw_16.out.below b17)
  have C17 := hid (C16.out.trans (b17.mono C16.out.size))
  clear C16 Sab_16 Sba_16 Sl_16 Sr_16 Sm_16 Sd_16 Ss_16 Se_16 Sg_16 Sw_16
  clear b17
  go_wp2_with fail
  refine (size_at _ b w17 (Hb0.out _ C17.out) Mb.out q2 Q2.out).mono ?_
  rintro e w18 ⟨rfl, b18⟩
  have Sab_18 := hid (Sab_17.out.below b18)
  have Sba_18 := hid (Sba_17.out.below b18)
  have Sl_18 := hid (Sl_17.out.below b18)
  have Sr_18 := hid (Sr_17.out.below b18)
  have Sm_18 := hid (Sm_17.out.below b18)
  have Sd_18 := hid (Sd_17.out.below b18)
  have Ss_18 := hid (Ss_17.out.below b18)
  have Se_18 := hid (Se_17.out.below b18)
  have Sg_18 := hid (Sg_17.out.below b18)
  have Sw_18 := hid (Sw_17.out.below b18)
  have C18 := hid (C17.out.trans (b18.mono C17.out.size))
  clear C17 Sab_17 Sba_17 Sl_17 Sr_17 Sm_17 Sd_17 Ss_17 Se_17 Sg_17 Sw_17
  clear b18
  go_wp2_with fail
  refine (size_at vab _ w18 Sab_18.out Mab.out q3 Q3.out).mono ?_
  rintro e w19 ⟨rfl, b19⟩
  have Sab_19 := hid (Sab_18.out.below b19)
  have Sba_19 := hid (Sba_18.out.below b19)
  have Sl_19 := hid (Sl_18.out.below b19)
  have Sr_19 := hid (Sr_18.out.below b19)
  have Sm_19 := hid (Sm_18.out.below b19)
  have Sd_19 := hid (Sd_18.out.below b19)
  have Ss_19 := hid (Ss_18.out.below b19)
  have Se_19 := hid (Se_18.out.below b19)
  have Sg_19 := hid (Sg_18.out.below b19)
  have Sw_19 := hid (Sw_18.out.below b19)
  have C19 := hid (C18.out.trans (b19.mono C18.out.size))
  clear C18 Sab_18 Sba_18 Sl_18 Sr_18 Sm_18 Sd_18 Ss_18 Se_18 Sg_18 Sw_18
  clear b19
  go_wp2_with fail
  refine (size_at vm _ w19 Sm_19.out Mm.out q4 Q4.out).mono ?_
  rintro e w20 ⟨rfl, b20⟩
  have Sab_20 := hid (Sab_19.out.below b20)
  have Sba_20 := hid (Sba_19.out.below b20)
  have Sl_20 := hid (Sl_19.out.below b20)
  have Sr_20 := hid (Sr_19.out.below b20)
  have Sm_20 := hid (Sm_19.out.below b20)
  have Sd_20 := hid (Sd_19.out.below b20)
  have Ss_20 := hid (Ss_19.out.below b20)
  have Se_20 := hid (Se_19.out.below b20)
  have Sg_20 := hid (Sg_19.out.below b20)
  have Sw_20 := hid (Sw_19.out.below b20)
  have C20 := hid (C19.out.trans (b20.mono C19.out.size))
  clear C19 Sab_19 Sba_19 Sl_19 Sr_19 Sm_19 Sd_19 Ss_19 Se_19 Sg_19 Sw_19
  clear b20
  clear Sm_20
  go_wp2_with fail
  refine (same_eq _ _ _ _ w20 Sab_20.out Sba_20.out E1.out).mono ?_
  rintro e w21 ⟨rfl, b21⟩
  have Sab_21 := hid (Sab_20.out.below b21)
  have Sba_21 := hid (Sba_20.out.below b21)
  have Sl_21 := hid (Sl_20.out.below b21)
  have Sr_21 := hid (Sr_20.out.below b21)
  have Sd_21 := hid (Sd_20.out.below b21)
  have Ss_21 := hid (Ss_20.out.below b21)
  have Se_21 := hid (Se_20.out.below b21)
  have Sg_21 := hid (Sg_20.out.below b21)
  have Sw_21 := hid (Sw_20.out.below b21)
  have C21 := hid (C20.out.trans (b21.mono C20.out.size))
  clear C20 Sab_20 Sba_20 Sl_20 Sr_20 Sd_20 Ss_20 Se_20 Sg_20 Sw_20
  clear b21
  clear Sab_21
  clear Sba_21
  go_wp2_with fail
  refine (same_eq _ _ _ _ w21 Sl_21.out Sr_21.out E2.out).mono ?_
  rintro e w22 ⟨rfl, b22⟩
  have Sl_22 := hid (Sl_21.out.below b22)
  have Sr_22 := hid (Sr_21.out.below b22)
  have Sd_22 := hid (Sd_21.out.below b22)
  have Ss_22 := hid (Ss_21.out.below b22)
  have Se_22 := hid (Se_21.out.below b22)
  have Sg_22 := hid (Sg_21.out.below b22)
  have Sw_22 := hid (Sw_21.out.below b22)
  have C22 := hid (C21.out.trans (b22.mono C21.out.size))
  clear C21 Sl_21 Sr_21 Sd_21 Ss_21 Se_21 Sg_21 Sw_21
  clear b22
  clear Sl_22
  clear Sr_22
  go_wp2_with fail
  refine (same_eq _ _ _ _ w22 Sd_22.out Ss_22.out E3.out).mono ?_
  rintro e w23 ⟨rfl, b23⟩
  have Sd_23 := hid (Sd_22.out.below b23)
  have Ss_23 := hid (Ss_22.out.below b23)
  have Se_23 := hid (Se_22.out.below b23)
  have Sg_23 := hid (Sg_22.out.below b23)
  have Sw_23 := hid (Sw_22.out.below b23)
  have C23 := hid (C22.out.trans (b23.mono C22.out.size))
  clear C22 Sd_22 Ss_22 Se_22 Sg_22 Sw_22
  clear b23
  clear Sd_23
  clear Ss_23
  go_wp2_with fail
  refine (same_eq _ _ _ _ w23 Se_23.out Sg_23.out E4.out).mono ?_
  rintro e w24 ⟨rfl, b24⟩
  have Se_24 := hid (Se_23.out.below b24)
  have Sg_24 := hid (Sg_23.out.below b24)
  have Sw_24 := hid (Sw_23.out.below b24)
  have C24 := hid (C23.out.trans (b24.mono C23.out.size))
  clear C23 Se_23 Sg_23 Sw_23
  clear b24
  clear Se_24
  clear Sg_24
  go_wp2_with fail
  refine (same_eq _ _ _ _ w24 Sw_24.out (Ha0.out _ C24.out) E5.out).mono ?_
  rintro e w25 ⟨rfl, b25⟩
  have Sw_25 := hid (Sw_24.out.below b25)
  have C25 := hid (C24.out.trans (b25.mono C24.out.size))
  clear C24 Sw_24
  clear b25
  clear Sw_25
  obtain ⟨l1, l2, l3, l4⟩ := LE.out
  have heq := HEQ.out
  go_wp2
  go_ret
  exact ⟨rfl, C25.out⟩
end Go.Proofs.YtecfjjpdlohmnaaDoor.SetLawsW
