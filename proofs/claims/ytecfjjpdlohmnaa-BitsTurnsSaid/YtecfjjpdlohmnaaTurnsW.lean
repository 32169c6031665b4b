/- Walk over the statement BitsTurns. -/
import Derived.Test.YtecfjjpdlohmnaaBitOf
import Derived.Test.YtecfjjpdlohmnaaBitOr
import Derived.Test.YtecfjjpdlohmnaaBitSpoil
import Derived.Test.YtecfjjpdlohmnaaSetCB
import Derived.Test.YtecfjjpdlohmnaaSetSame
namespace Go.Proofs.Ytecfjjpdlohmnaa.TurnsW
open Go.RowKit Go.Lib SetP SetO SetNum SetIn SetWith SetT SetW2 SetF SetG SetC SetSame BitCheck BitOps BitOr BitOf BitClone BitSpoil

theorem ref_of (v : Value) (l : List Int) (w : World) (hl : IntsAt w v l) : Calls Try.prog 5 #[v] w (OwnSR (ofS l) (ofE l) w) := by
  unfold ofS ofE
  by_cases h : okL l = true
  · rw [if_pos h, if_pos h]; exact SetF.of_good v l w hl (okL_iff.1 h)
  · rw [if_neg h, if_neg h]; exact SetF.of_bad v l w hl (fun e => h (okL_iff.2 e))
theorem or_may (a b : List Wd) : MayW (orS a b) := by
  unfold orS; split
  · rename_i h; exact union_may h.1 h.2
  · exact mayw_nil
theorem and_may (a b : List Wd) : MayW (andS a b) := by
  unfold andS; split
  · rename_i h; exact meet_may h.1
  · exact mayw_nil
theorem less_may (a b : List Wd) : MayW (lessS a b) := by
  unfold lessS; split
  · rename_i h; exact minus_may h.1
  · exact mayw_nil
theorem set_own {w : World} {B : Nat} {v : Value} {n : Nat} {s : List Wd} (h : w.ownsRow B 40 2 v n (wdVals s)) (hm : MayW s) : SetAt w v s :=
  setAt_of_owns h (by have := may_length hm; omega)
theorem own_len {w : World} {B : Nat} {v : Value} {n : Nat} {s : List Wd} (h : w.ownsRow B 40 2 v n (wdVals s)) (hm : MayW s) : n ≤ 100000 := by
  have h1 := h.1
  rw [wdVals_length] at h1
  have := may_length hm
  omega
theorem ref_or (va vb : Value) (a b : List Wd) (w : World) (ha : SetAt w va a) (hb : SetAt w vb b) (hoka : ∀ x ∈ a, WdOk x) (hokb : ∀ x ∈ b, WdOk x) :
    Calls Try.prog 7 #[va, vb] w (OwnSR (orS a b) (togE a b) w) := SetC.or_calls va vb a b w ha hb hoka hokb
theorem ref_and (va vb : Value) (a b : List Wd) (w : World) (ha : SetAt w va a) (hb : SetAt w vb b) (hoka : ∀ x ∈ a, WdOk x) (hokb : ∀ x ∈ b, WdOk x) :
    Calls Try.prog 9 #[va, vb] w (OwnSR (andS a b) (togE a b) w) := SetC.and_calls va vb a b w ha hb hoka hokb
theorem ref_minus (va vb : Value) (a b : List Wd) (w : World) (ha : SetAt w va a) (hb : SetAt w vb b) (hoka : ∀ x ∈ a, WdOk x) (hokb : ∀ x ∈ b, WdOk x) :
    Calls Try.prog 11 #[va, vb] w (OwnSR (lessS a b) (togE a b) w) := SetC.minusr_calls va vb a b w ha hb hoka hokb
theorem own_apart {w : World} {T B n : Nat} {u v : Value} {xs : List Value} (hu : ∀ k, u.ownBlock = some k → k < T) (hv : w.ownsRow B 40 2 v n xs) (h : T ≤ B) : v.ownBlock = none ∨ v.ownBlock ≠ u.ownBlock := by
  cases hb : v.ownBlock with
  | none => exact .inl rfl
  | some k =>
    right
    intro e
    have := hu k e.symm
    have := (hv.lt k hb).1
    omega
/-- two alike -/
theorem same_yes (u v : Value) (s : List Wd) (w : World) (h1 : SetAt w u s) (h2 : SetAt w v s) : Calls Try.prog 12 #[u, v] w fun e w' => e = .returned (.bool true) ∧ Below w.heap.size w w' :=
  (same_sets u v s s w h1 h2).mono fun e w' ⟨he, n, hw⟩ => ⟨by rw [he, decide_eq_true rfl], by rw [hw]; exact below_drewN (Below.refl _ _) n⟩
theorem ints_yes (u v : Value) (s : List Int) (w : World) (h1 : IntsAt w u s) (h2 : IntsAt w v s) : Calls Try.prog 14 #[u, v] w fun e w' => e = .returned (.bool true) ∧ Below w.heap.size w w' :=
  (same_ints u v s s w h1 h2).mono fun e w' ⟨he, n, hw⟩ => ⟨by rw [he, decide_eq_true rfl], by rw [hw]; exact below_drewN (Below.refl _ _) n⟩

set_option maxRecDepth 100000 in
set_option maxHeartbeats 4000000 in
theorem walk (w : World) (va : Value) (a : List Wd) (ha : SetAt w va a) (hoka : ∀ x ∈ a, WdOk x) (vb : Value) (b : List Wd) (hb : SetAt w vb b) (hokb : ∀ x ∈ b, WdOk x) (vl : Value) (l : List Int) (hl : IntsAt w vl l) (_hokl : ∀ n ∈ l, -9223372036854775808 ≤ n ∧ n ≤ 9223372036854775807) :
    Calls Try.prog 3 #[va, vb, vl] w fun e w' => e = .returned (.bool true) ∧ Below w.heap.size w w' := by
  have HA := hid ha
  have HB := hid hb
  have HL := hid hl
  have HOA := hid hoka
  have HOB := hid hokb
  clear hoka hokb
  obtain ⟨ao, capa, rfl⟩ : ∃ ao cap, va = .slice ao a.length cap := by obtain ⟨ao, cap, rfl, _⟩ := ha; exact ⟨ao, cap, rfl⟩
  obtain ⟨bo, capb, rfl⟩ : ∃ ao cap, vb = .slice ao b.length cap := by obtain ⟨ao, cap, rfl, _⟩ := hb; exact ⟨ao, cap, rfl⟩
  obtain ⟨lo, capl, rfl⟩ : ∃ ao cap, vl = .slice ao l.length cap := by obtain ⟨ao, cap, rfl, _⟩ := hl; exact ⟨ao, cap, rfl⟩
  clear ha hb hl
  by_cases h0 : 10 < a.length
  · go_enter Try.func3, Try.ntmps3
    go_wp2
    go_ret
    exact ⟨rfl, Below.refl _ _⟩
  by_cases h1 : 10 < b.length
  · go_enter Try.func3, Try.ntmps3
    go_wp2
    go_ret
    exact ⟨rfl, Below.refl _ _⟩
  by_cases h2 : 200 < l.length
  · go_enter Try.func3, Try.ntmps3
    go_wp2
    go_ret
    exact ⟨rfl, Below.refl _ _⟩
  go_enter Try.func3, Try.ntmps3
  have b0 : Below w.heap.size w w := Below.refl _ _
  have HA0 : Hid (∀ w', Below w.heap.size w w' → SetAt w' (.slice ao a.length capa) a) := fun w' h => HA.out.below h
  have HB0 : Hid (∀ w', Below w.heap.size w w' → SetAt w' (.slice bo b.length capb) b) := fun w' h => HB.out.below h
  have HL0 : Hid (∀ w', Below w.heap.size w w' → IntsAt w' (.slice lo l.length capl) l) := fun w' h => HL.out.below h
  clear HA HB HL
  go_wp2_with (first | (at_builtin; refine wpList_clone_set rfl (.tmp 40) (.tmp 41) rfl w.heap.size (.slice (some ⟨w.heap.size, 0, none⟩) 0 0) rfl ?xo (.slice ao a.length capa) a rfl ?xh ?xl ?xb ?_))
  case xo => exact World.ownsRow_made w #[] 0 (Nat.le_refl _) (by decide) (by simp)
  case xh => exact HA0.out _ (b0.alloc (by first | exact Nat.le_refl _ | exact b0.size) _)
  case xl => omega
  case xb => simp
  intro vx nx w1 ownx b1
  have c1 : Below w.heap.size w w1 := (b0.alloc (Nat.le_refl _) _).trans b1
  have HX1 := hid (setAt_of_owns ownx (by omega))
  clear ownx b1 b0
  go_wp2_with (first | (at_builtin; refine wpList_clone_set rfl (.tmp 43) (.tmp 44) rfl w1.heap.size (.slice (some ⟨w1.heap.size, 0, none⟩) 0 0) rfl ?yo (.slice bo b.length capb) b rfl ?yh ?yl ?yb ?_))
  case yo => exact World.ownsRow_made w1 #[] 0 (Nat.le_refl _) (by decide) (by simp)
  case yh => exact HB0.out _ (c1.alloc (by first | exact Nat.le_refl _ | exact c1.size) _)
  case yl => omega
  case yb => simp
  intro vy ny w2 owny b2
  have d2 : Below w1.heap.size w1 w2 := ((Below.refl _ _).alloc (Nat.le_refl _) _).trans b2
  have c2 := c1.trans (d2.mono c1.size)
  have HX2 := hid (HX1.out.below d2)
  have HY2 := hid (setAt_of_owns owny (by omega))
  clear owny b2 c1 HX1 d2
  go_wp2_with (first | (at_builtin; refine wpList_clone_ints rfl (.tmp 46) (.tmp 47) rfl w2.heap.size (.slice (some ⟨w2.heap.size, 0, none⟩) 0 0) rfl ?ko (.slice lo l.length capl) l rfl ?kh ?kl ?kb ?_))
  case ko => exact World.ownsRow_made w2 #[] 0 (Nat.le_refl _) (by decide) (by simp)
  case kh => exact HL0.out _ (c2.alloc (by first | exact Nat.le_refl _ | exact c2.size) _)
  case kl => omega
  case kb => simp
  intro vk nk w3 ownk b3
  have d3 : Below w2.heap.size w2 w3 := ((Below.refl _ _).alloc (Nat.le_refl _) _).trans b3
  have C3 := hid (c2.trans (d3.mono c2.size))
  have HX := hid (HX2.out.below d3)
  have HY := hid (HY2.out.below d3)
  have HK := hid (intsAt_of_owns ownk (by omega))
  clear ownk b3 c2 HX2 HY2 d3
  go_wp2_with fail
  refine (BitOf.of_calls vk l w3 HK.out).mono ?_
  rintro e w4 ⟨vs, ns, rfl, owns, b4⟩
  have Ss := hid (set_own owns (of_may l))
  have Os := hid owns
  have Ls := hid (fun k hk => ((owns).lt k hk).2)
  have B4 := hid b4
  have Z4 := hid b4.size
  clear owns b4
  go_wp2_with fail
  refine (ref_of _ l w4 (HL0.out _ (C3.out.trans (B4.out.mono C3.out.size)))).mono ?_
  rintro e w5 ⟨vt, nt, rfl, ownt, b5⟩
  have St := hid (set_own ownt (of_may l))
  have Ss' := hid (Ss.out.below b5)
  clear Ss
  have Ss := Ss'
  clear Ss'
  have Os' := hid (ownsRow_below Os.out b5)
  clear Os
  have Os := Os'
  clear Os'
  have B5 := hid (B4.out.trans (b5.mono B4.out.size))
  have Z5 := hid b5.size
  clear ownt b5 B4
  go_wp2_with fail
  refine (BitOr.or_calls vx vy a b w5 (HX.out.below B5.out) (HY.out.below B5.out) HOA.out HOB.out).mono ?_
  rintro e w6 ⟨vc, nc, rfl, ownc, b6⟩
  have Sc := hid (set_own ownc (or_may a b))
  have Ss' := hid (Ss.out.below b6)
  clear Ss
  have Ss := Ss'
  clear Ss'
  have Os' := hid (ownsRow_below Os.out b6)
  clear Os
  have Os := Os'
  clear Os'
  have St' := hid (St.out.below b6)
  clear St
  have St := St'
  clear St'
  have Oc := hid ownc
  have Lc := hid (fun k hk => ((ownc).lt k hk).2)
  have B6 := hid (B5.out.trans (b6.mono B5.out.size))
  have Z6 := hid b6.size
  clear ownc b6 B5
  go_wp2_with fail
  refine (ref_or _ _ a b w6 (HA0.out _ (C3.out.trans (B6.out.mono C3.out.size))) (HB0.out _ (C3.out.trans (B6.out.mono C3.out.size))) HOA.out HOB.out).mono ?_
  rintro e w7 ⟨vd, nd, rfl, ownd, b7⟩
  have Sd := hid (set_own ownd (or_may a b))
  have Ss' := hid (Ss.out.below b7)
  clear Ss
  have Ss := Ss'
  clear Ss'
  have Os' := hid (ownsRow_below Os.out b7)
  clear Os
  have Os := Os'
  clear Os'
  have St' := hid (St.out.below b7)
  clear St
  have St := St'
  clear St'
  have Sc' := hid (Sc.out.below b7)
  clear Sc
  have Sc := Sc'
  clear Sc'
  have Oc' := hid (ownsRow_below Oc.out b7)
  clear Oc
  have Oc := Oc'
  clear Oc'
  have B7 := hid (B6.out.trans (b7.mono B6.out.size))
  have Z7 := hid b7.size
  clear ownd b7 B6
  go_wp2_with fail
  refine (BitOr.and_calls vx vy a b w7 (HX.out.below B7.out) (HY.out.below B7.out) HOA.out HOB.out).mono ?_
  rintro e w8 ⟨vg, ng, rfl, owng, b8⟩
  have Sg := hid (set_own owng (and_may a b))
  have Ss' := hid (Ss.out.below b8)
  clear Ss
  have Ss := Ss'
  clear Ss'
  have Os' := hid (ownsRow_below Os.out b8)
  clear Os
  have Os := Os'
  clear Os'
  have St' := hid (St.out.below b8)
  clear St
  have St := St'
  clear St'
  have Sc' := hid (Sc.out.below b8)
  clear Sc
  have Sc := Sc'
  clear Sc'
  have Oc' := hid (ownsRow_below Oc.out b8)
  clear Oc
  have Oc := Oc'
  clear Oc'
  have Sd' := hid (Sd.out.below b8)
  clear Sd
  have Sd := Sd'
  clear Sd'
  have Og := hid owng
  have Lg := hid (fun k hk => ((owng).lt k hk).2)
  have B8 := hid (B7.out.trans (b8.mono B7.out.size))
  have Z8 := hid b8.size
  clear owng b8 B7
  go_wp2_with fail
  refine (ref_and _ _ a b w8 (HA0.out _ (C3.out.trans (B8.out.mono C3.out.size))) (HB0.out _ (C3.out.trans (B8.out.mono C3.out.size))) HOA.out HOB.out).mono ?_
  rintro e w9 ⟨vh, nh, rfl, ownh, b9⟩
  have Sh := hid (set_own ownh (and_may a b))
  have Ss' := hid (Ss.out.below b9)
  clear Ss
  have Ss := Ss'
  clear Ss'
  have Os' := hid (ownsRow_below Os.out b9)
  clear Os
  have Os := Os'
  clear Os'
  have St' := hid (St.out.below b9)
  clear St
  have St := St'
  clear St'
  have Sc' := hid (Sc.out.below b9)
  clear Sc
  have Sc := Sc'
  clear Sc'
  have Oc' := hid (ownsRow_below Oc.out b9)
  clear Oc
  have Oc := Oc'
  clear Oc'
  have Sd' := hid (Sd.out.below b9)
  clear Sd
  have Sd := Sd'
  clear Sd'
  have Sg' := hid (Sg.out.below b9)
  clear Sg
  have Sg := Sg'
  clear Sg'
  have Og' := hid (ownsRow_below Og.out b9)
  clear Og
  have Og := Og'
  clear Og'
  have B9 := hid (B8.out.trans (b9.mono B8.out.size))
  have Z9 := hid b9.size
  clear ownh b9 B8
  go_wp2_with fail
  refine (BitOr.minus_calls vx vy a b w9 (HX.out.below B9.out) (HY.out.below B9.out) HOA.out HOB.out).mono ?_
  rintro e w10 ⟨vi, ni, rfl, owni, b10⟩
  have Si := hid (set_own owni (less_may a b))
  have Ss' := hid (Ss.out.below b10)
  clear Ss
  have Ss := Ss'
  clear Ss'
  have Os' := hid (ownsRow_below Os.out b10)
  clear Os
  have Os := Os'
  clear Os'
  have St' := hid (St.out.below b10)
  clear St
  have St := St'
  clear St'
  have Sc' := hid (Sc.out.below b10)
  clear Sc
  have Sc := Sc'
  clear Sc'
  have Oc' := hid (ownsRow_below Oc.out b10)
  clear Oc
  have Oc := Oc'
  clear Oc'
  have Sd' := hid (Sd.out.below b10)
  clear Sd
  have Sd := Sd'
  clear Sd'
  have Sg' := hid (Sg.out.below b10)
  clear Sg
  have Sg := Sg'
  clear Sg'
  have Og' := hid (ownsRow_below Og.out b10)
  clear Og
  have Og := Og'
  clear Og'
  have Sh' := hid (Sh.out.below b10)
  clear Sh
  have Sh := Sh'
  clear Sh'
  have Oi := hid owni
  have Li := hid (fun k hk => ((owni).lt k hk).2)
  have B10 := hid (B9.out.trans (b10.mono B9.out.size))
  have Z10 := hid b10.size
  clear owni b10 B9
  go_wp2_with fail
  refine (ref_minus _ _ a b w10 (HA0.out _ (C3.out.trans (B10.out.mono C3.out.size))) (HB0.out _ (C3.out.trans (B10.out.mono C3.out.size))) HOA.out HOB.out).mono ?_
  rintro e w11 ⟨vj, nj, rfl, ownj, b11⟩
  have Sj := hid (set_own ownj (less_may a b))
  have Ss' := hid (Ss.out.below b11)
  clear Ss
  have Ss := Ss'
  clear Ss'
  have Os' := hid (ownsRow_below Os.out b11)
  clear Os
  have Os := Os'
  clear Os'
  have St' := hid (St.out.below b11)
  clear St
  have St := St'
  clear St'
  have Sc' := hid (Sc.out.below b11)
  clear Sc
  have Sc := Sc'
  clear Sc'
  have Oc' := hid (ownsRow_below Oc.out b11)
  clear Oc
  have Oc := Oc'
  clear Oc'
  have Sd' := hid (Sd.out.below b11)
  clear Sd
  have Sd := Sd'
  clear Sd'
  have Sg' := hid (Sg.out.below b11)
  clear Sg
  have Sg := Sg'
  clear Sg'
  have Og' := hid (ownsRow_below Og.out b11)
  clear Og
  have Og := Og'
  clear Og'
  have Sh' := hid (Sh.out.below b11)
  clear Sh
  have Sh := Sh'
  clear Sh'
  have Si' := hid (Si.out.below b11)
  clear Si
  have Si := Si'
  clear Si'
  have Oi' := hid (ownsRow_below Oi.out b11)
  clear Oi
  have Oi := Oi'
  clear Oi'
  have B11 := hid (B10.out.trans (b11.mono B10.out.size))
  have Z11 := hid b11.size
  clear ownj b11 B10
  have he1 : (ofE l == ofE l) = true := by simp
  have he2 : (togE a b == togE a b) = true := by simp
  generalize ofE l = oe at *
  generalize togE a b = te at *
  go_wp2_with fail
  refine (same_yes vs vt _ w11 Ss.out St.out).mono ?_
  rintro e w12 ⟨rfl, b12⟩
  have Os' := hid (ownsRow_below Os.out b12)
  clear Os
  have Os := Os'
  clear Os'
  have Sc' := hid (Sc.out.below b12)
  clear Sc
  have Sc := Sc'
  clear Sc'
  have Oc' := hid (ownsRow_below Oc.out b12)
  clear Oc
  have Oc := Oc'
  clear Oc'
  have Sd' := hid (Sd.out.below b12)
  clear Sd
  have Sd := Sd'
  clear Sd'
  have Sg' := hid (Sg.out.below b12)
  clear Sg
  have Sg := Sg'
  clear Sg'
  have Og' := hid (ownsRow_below Og.out b12)
  clear Og
  have Og := Og'
  clear Og'
  have Sh' := hid (Sh.out.below b12)
  clear Sh
  have Sh := Sh'
  clear Sh'
  have Si' := hid (Si.out.below b12)
  clear Si
  have Si := Si'
  clear Si'
  have Oi' := hid (ownsRow_below Oi.out b12)
  clear Oi
  have Oi := Oi'
  clear Oi'
  have Sj' := hid (Sj.out.below b12)
  clear Sj
  have Sj := Sj'
  clear Sj'
  have B12 := hid (B11.out.trans (b12.mono B11.out.size))
  clear b12 B11
  go_wp2_with fail
  refine (same_yes vc vd _ w12 Sc.out Sd.out).mono ?_
  rintro e w13 ⟨rfl, b13⟩
  have Os' := hid (ownsRow_below Os.out b13)
  clear Os
  have Os := Os'
  clear Os'
  have Oc' := hid (ownsRow_below Oc.out b13)
  clear Oc
  have Oc := Oc'
  clear Oc'
  have Sg' := hid (Sg.out.below b13)
  clear Sg
  have Sg := Sg'
  clear Sg'
  have Og' := hid (ownsRow_below Og.out b13)
  clear Og
  have Og := Og'
  clear Og'
  have Sh' := hid (Sh.out.below b13)
  clear Sh
  have Sh := Sh'
  clear Sh'
  have Si' := hid (Si.out.below b13)
  clear Si
  have Si := Si'
  clear Si'
  have Oi' := hid (ownsRow_below Oi.out b13)
  clear Oi
  have Oi := Oi'
  clear Oi'
  have Sj' := hid (Sj.out.below b13)
  clear Sj
  have Sj := Sj'
  clear Sj'
  have B13 := hid (B12.out.trans (b13.mono B12.out.size))
  clear b13 B12
  go_wp2_with fail
  refine (same_yes vg vh _ w13 Sg.out Sh.out).mono ?_
  rintro e w14 ⟨rfl, b14⟩
  have Os' := hid (ownsRow_below Os.out b14)
  clear Os
  have Os := Os'
  clear Os'
  have Oc' := hid (ownsRow_below Oc.out b14)
  clear Oc
  have Oc := Oc'
  clear Oc'
  have Og' := hid (ownsRow_below Og.out b14)
  clear Og
  have Og := Og'
  clear Og'
  have Si' := hid (Si.out.below b14)
  clear Si
  have Si := Si'
  clear Si'
  have Oi' := hid (ownsRow_below Oi.out b14)
  clear Oi
  have Oi := Oi'
  clear Oi'
  have Sj' := hid (Sj.out.below b14)
  clear Sj
  have Sj := Sj'
  clear Sj'
  have B14 := hid (B13.out.trans (b14.mono B13.out.size))
  clear b14 B13
  go_wp2_with fail
  refine (same_yes vi vj _ w14 Si.out Sj.out).mono ?_
  rintro e w15 ⟨rfl, b15⟩
  have Os' := hid (ownsRow_below Os.out b15)
  clear Os
  have Os := Os'
  clear Os'
  have Oc' := hid (ownsRow_below Oc.out b15)
  clear Oc
  have Oc := Oc'
  clear Oc'
  have Og' := hid (ownsRow_below Og.out b15)
  clear Og
  have Og := Og'
  clear Og'
  have Oi' := hid (ownsRow_below Oi.out b15)
  clear Oi
  have Oi := Oi'
  clear Oi'
  have B15 := hid (B14.out.trans (b15.mono B14.out.size))
  clear b15 B14
  have ZZ : Hid (w3.heap.size ≤ w4.heap.size ∧ w4.heap.size ≤ w5.heap.size ∧ w5.heap.size ≤ w6.heap.size ∧ w6.heap.size ≤ w7.heap.size ∧ w7.heap.size ≤ w8.heap.size ∧ w8.heap.size ≤ w9.heap.size ∧ w9.heap.size ≤ w10.heap.size) := ⟨Z4.out, Z5.out, Z6.out, Z7.out, Z8.out, Z9.out, Z10.out⟩
  go_wp2_with fail
  refine (spoil_calls _ vs ns _ w15 Os.out (own_len Os.out (of_may l))).mono ?_
  rintro e w16 ⟨rfl, g16⟩
  have Oc' := hid (Oc.out.kept g16 (own_apart Ls.out Oc.out (by have := ZZ.out; omega)))
  clear Oc
  have Oc := Oc'
  clear Oc'
  have Og' := hid (Og.out.kept g16 (own_apart Ls.out Og.out (by have := ZZ.out; omega)))
  clear Og
  have Og := Og'
  clear Og'
  have Oi' := hid (Oi.out.kept g16 (own_apart Ls.out Oi.out (by have := ZZ.out; omega)))
  clear Oi
  have Oi := Oi'
  clear Oi'
  have hlo : ∀ q, vs.ownBlock = some q → w3.heap.size ≤ q := fun q hq => Nat.le_trans (by have := ZZ.out; omega) ((Os.out.lt q hq).1)
  have B16 := hid (B15.out.grown g16 B15.out.size hlo)
  clear g16 hlo B15 Os
  go_wp2_with fail
  refine (spoil_calls _ vc nc _ w16 Oc.out (own_len Oc.out (or_may a b))).mono ?_
  rintro e w17 ⟨rfl, g17⟩
  have Og' := hid (Og.out.kept g17 (own_apart Lc.out Og.out (by have := ZZ.out; omega)))
  clear Og
  have Og := Og'
  clear Og'
  have Oi' := hid (Oi.out.kept g17 (own_apart Lc.out Oi.out (by have := ZZ.out; omega)))
  clear Oi
  have Oi := Oi'
  clear Oi'
  have hlo : ∀ q, vc.ownBlock = some q → w3.heap.size ≤ q := fun q hq => Nat.le_trans (by have := ZZ.out; omega) ((Oc.out.lt q hq).1)
  have B17 := hid (B16.out.grown g17 B16.out.size hlo)
  clear g17 hlo B16 Oc
  go_wp2_with fail
  refine (spoil_calls _ vg ng _ w17 Og.out (own_len Og.out (and_may a b))).mono ?_
  rintro e w18 ⟨rfl, g18⟩
  have Oi' := hid (Oi.out.kept g18 (own_apart Lg.out Oi.out (by have := ZZ.out; omega)))
  clear Oi
  have Oi := Oi'
  clear Oi'
  have hlo : ∀ q, vg.ownBlock = some q → w3.heap.size ≤ q := fun q hq => Nat.le_trans (by have := ZZ.out; omega) ((Og.out.lt q hq).1)
  have B18 := hid (B17.out.grown g18 B17.out.size hlo)
  clear g18 hlo B17 Og
  go_wp2_with fail
  refine (spoil_calls _ vi ni _ w18 Oi.out (own_len Oi.out (less_may a b))).mono ?_
  rintro e w19 ⟨rfl, g19⟩
  have hlo : ∀ q, vi.ownBlock = some q → w3.heap.size ≤ q := fun q hq => Nat.le_trans (by have := ZZ.out; omega) ((Oi.out.lt q hq).1)
  have B19 := hid (B18.out.grown g19 B18.out.size hlo)
  clear g19 hlo B18 Oi
  go_wp2_with fail
  refine (same_yes vx _ a w19 (HX.out.below B19.out) (HA0.out _ (C3.out.trans (B19.out.mono C3.out.size)))).mono ?_
  rintro e w20 ⟨rfl, b20⟩
  have B20 := hid (B19.out.trans (b20.mono B19.out.size))
  clear b20 B19
  go_wp2_with fail
  refine (same_yes vy _ b w20 (HY.out.below B20.out) (HB0.out _ (C3.out.trans (B20.out.mono C3.out.size)))).mono ?_
  rintro e w21 ⟨rfl, b21⟩
  have B21 := hid (B20.out.trans (b21.mono B20.out.size))
  clear b21 B20
  go_wp2_with fail
  refine (ints_yes vk _ l w21 (HK.out.below B21.out) (HL0.out _ (C3.out.trans (B21.out.mono C3.out.size)))).mono ?_
  rintro e w22 ⟨rfl, b22⟩
  have B22 := hid (B21.out.trans (b22.mono B21.out.size))
  clear b22 B21
  go_wp2
  go_ret
  exact ⟨rfl, C3.out.trans (B22.out.mono C3.out.size)⟩
end Go.Proofs.Ytecfjjpdlohmnaa.TurnsW
