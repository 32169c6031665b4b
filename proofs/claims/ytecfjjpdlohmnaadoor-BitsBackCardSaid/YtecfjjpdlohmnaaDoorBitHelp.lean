/- Walks over the helpers of stage 2's statements: of, are, alive. -/
import Derived.Test.YtecfjjpdlohmnaaDoorBitList
import Derived.Test.YtecfjjpdlohmnaaDoorBitHas
import Derived.Test.YtecfjjpdlohmnaaDoorBitOf
import Derived.Test.YtecfjjpdlohmnaaDoorBitOr
import Derived.Test.YtecfjjpdlohmnaaDoorBitSame
import Derived.Test.YtecfjjpdlohmnaaDoorBitClone
namespace Go.Proofs.YtecfjjpdlohmnaaDoor.BitHelp
open Go.RowKit Go.Lib SetP SetO SetNum SetIn SetWith SetT SetW2 SetF SetG SetC SetSame BitCheck BitHas BitOnes BitTz BitList BitSame BitClone BitOf BitOr BitOps

theorem ints_new (l : List Int) (hl : l.length ≤ 1000000) (w : World) : IntsAt (w.alloc (.cells (intVals l).toArray 3)) (.slice (some ⟨w.heap.size, 0, none⟩) l.length l.length) l := by
  refine ⟨_, _, rfl, by omega, fun _ => ⟨w.heap.size, 0, rfl, by simp, fun i hi => ?_⟩, fun h => by cases h⟩
  rw [World.cell?_of_block (w := w.alloc (.cells (intVals l).toArray 3)) rfl]
  unfold World.cell?
  rw [heap_alloc_new w _]
  simp [intVals, hi]
theorem set_new (s : List Wd) (hl : s.length ≤ 1000000) (w : World) : SetAt (w.alloc (.cells (wdVals s).toArray 34)) (.slice (some ⟨w.heap.size, 0, none⟩) s.length s.length) s := by
  refine ⟨_, _, rfl, by omega, fun _ => ⟨w.heap.size, 0, rfl, by simp, fun i hi => ?_⟩, (fun h => by cases h), Nat.le_refl _⟩
  obtain ⟨e1, e2⟩ := wdVals_at s i hi
  have h := heap_alloc_new w (.cells (wdVals s).toArray 34)
  constructor
  · unfold World.cell?
    rw [h]
    simpa using e1
  · unfold World.cell?
    rw [h]
    simpa using e2
theorem set_nil (w : World) : SetAt w (.slice none 0 0) [] := ⟨none, 0, rfl, by simp, fun h => by simp at h, (fun _ => rfl), by simp⟩
theorem ints_nil (w : World) : IntsAt w (.slice none 0 0) [] := ⟨none, 0, rfl, by simp, fun h => by simp at h, fun _ => rfl⟩
theorem set_own {w : World} {B : Nat} {v : Value} {n : Nat} {s : List Wd} (h : w.ownsRow B 34 2 v n (wdVals s)) (hm : MayW s) : SetAt w v s :=
  setAt_of_owns h (by have := may_length hm; omega)

/-- the set of numbers; nothing, if there is none -/
theorem of_help (v : Value) (l : List Int) (w : World) (hl : IntsAt w v l) : Calls Tryd.prog 10 #[v] w (OwnS (ofS l) w) := by
  have H := hid (BitOf.of_calls v l w hl)
  by_cases h : okL l = true
  · have e1 : ofE l = 0 := if_pos h
    rw [e1] at H
    clear hl h e1
    go_enter Tryd.func10, Tryd.ntmps10
    go_wp2_with fail
    refine H.out.mono ?_
    rintro e w1 ⟨u, m, rfl, hown, hb⟩
    go_wp2
    go_ret
    exact ⟨u, m, rfl, hown, hb⟩
  · have e1 : ofE l = 2 := if_neg h
    have e2 : ofS l = [] := if_neg h
    rw [e1] at H
    rw [e2]
    clear hl h e1 e2
    go_enter Tryd.func10, Tryd.ntmps10
    go_wp2_with fail
    refine H.out.mono ?_
    rintro e w1 ⟨u, m, rfl, hown, hb⟩
    clear hown
    go_wp2
    go_ret
    exact ⟨_, 0, rfl, World.ownsRow_nil _ _ _ _, hb⟩

/-- are these a set's numbers? yes -/
theorem are_yes (v u : Value) (s : List Wd) (l : List Int) (w : World) (hs : SetAt w v s) (hm : MayW s) (hl : IntsAt w u l) (ht : Tab w) (he : numbers s = l) :
    Calls Tryd.prog 16 #[v, u] w fun e w' => e = .returned (.bool true) ∧ Below w.heap.size w w' := by
  have H := hid (BitList.list_calls v s w hs (wok hm.win) ht)
  rw [chk_yes hm, show listS s = l from (if_pos hm).trans he] at H
  have HL := hid hl
  have hlen : l.length ≤ 9223372036854775807 := by obtain ⟨_, _, _, h, _⟩ := hl; exact h
  clear hs hm hl ht he
  go_enter Tryd.func16, Tryd.ntmps16
  go_wp2_with fail
  refine H.out.mono ?_
  rintro e w1 ⟨k, m, rfl, hown, hb⟩
  have HK := hid (intsAt_of_owns hown hlen)
  have HL1 := hid (HL.out.below hb)
  clear hown
  go_wp2_with fail
  refine (same_ints _ _ l l w1 HK.out HL1.out).mono ?_
  rintro e w2 ⟨rfl, n, hw⟩
  have hb2 : Below w.heap.size w w2 := by rw [hw]; exact below_drewN hb n
  have hd : decide (l = l) = true := decide_eq_true rfl
  clear hw hb
  go_wp2
  go_ret
  exact ⟨rfl, hb2⟩

theorem vA : ofS [1, 64] = [(0, 2), (1, 1)] := by decide +kernel
theorem vB : ofS [1, 2] = [(0, 6)] := by decide +kernel
theorem vC : ofS [64, 1, 64] = [(0, 2), (1, 1)] := by decide +kernel
theorem vOr : numbers (unionS [(0, 2), (1, 1)] [(0, 6)]) = [1, 2, 64] := by decide +kernel
theorem vAnd : numbers (meetS [(0, 2), (1, 1)] [(0, 6)]) = [1] := by decide +kernel
theorem vLess : numbers (minusS [(0, 2), (1, 1)] [(0, 6)]) = [64] := by decide +kernel
theorem mA : MayW [(0, 2), (1, 1)] := vA ▸ of_may [1, 64]
theorem mB : MayW [(0, 6)] := vB ▸ of_may [1, 2]
theorem or_eq {a b : List Wd} (ha : MayW a) (hb : MayW b) : orS a b = unionS a b := if_pos ⟨ha, hb⟩
theorem and_eq {a b : List Wd} (ha : MayW a) (hb : MayW b) : andS a b = meetS a b := if_pos ⟨ha, hb⟩
theorem less_eq {a b : List Wd} (ha : MayW a) (hb : MayW b) : lessS a b = minusS a b := if_pos ⟨ha, hb⟩
theorem tog_zero {a b : List Wd} (ha : MayW a) (hb : MayW b) : togE a b = 0 := if_pos ⟨ha, hb⟩

set_option maxRecDepth 100000 in
set_option maxHeartbeats 2000000 in
theorem alive_calls (w : World) (ht : Tab w) : Calls Tryd.prog 15 #[] w fun e w' => e = .returned (.bool true) ∧ Below w.heap.size w w' := by
  have HT := hid ht
  clear ht
  have b0 : Below w.heap.size w (w.alloc (.cells #[.int .i64 1, .int .i64 64] 3)) := (Below.refl _ _).alloc (Nat.le_refl _) _
  have i1 := hid (ints_new [1, 64] (by decide) w)
  have HOF1 := hid (of_help _ _ _ i1.out)
  rw [vA] at HOF1
  go_enter Tryd.func15, Tryd.ntmps15
  go_wp2_with fail
  refine HOF1.out.mono ?_
  rintro e w1 ⟨va, na, rfl, owna, b1⟩
  have B1 := hid (b0.trans (b1.mono b0.size))
  have SA1 := hid (set_own owna mA)
  clear owna b0 b1 HOF1 i1
  have HOF2 := hid (of_help _ _ _ (ints_new [1, 2] (by decide) w1))
  rw [vB] at HOF2
  go_wp2_with fail
  refine HOF2.out.mono ?_
  rintro e w2 ⟨vb, nb, rfl, ownb, b2⟩
  have d2 : Below w1.heap.size w1 w2 := ((Below.refl _ _).alloc (Nat.le_refl _) _).trans (b2.mono (by simp))
  have B2 := hid (B1.out.trans (d2.mono B1.out.size))
  have SA2 := hid (SA1.out.below d2)
  have SB2 := hid (set_own ownb mB)
  clear ownb b2 d2 HOF2 SA1 B1
  go_wp2_with fail
  refine (BitOr.or_calls va vb _ _ w2 SA2.out SB2.out (wok mA.win) (wok mB.win)).mono ?_
  rw [or_eq mA mB, tog_zero mA mB]
  rintro e w3 ⟨vx, nx, rfl, ownx, b3⟩
  have B3 := hid (B2.out.trans (b3.mono B2.out.size))
  have SA3 := hid (SA2.out.below b3)
  have SB3 := hid (SB2.out.below b3)
  have SX3 := hid (set_own ownx (union_may mA mB))
  clear ownx b3 SA2 SB2 B2
  go_wp2_with fail
  refine (BitOr.and_calls va vb _ _ w3 SA3.out SB3.out (wok mA.win) (wok mB.win)).mono ?_
  rw [and_eq mA mB, tog_zero mA mB]
  rintro e w4 ⟨vy, ny, rfl, owny, b4⟩
  have B4 := hid (B3.out.trans (b4.mono B3.out.size))
  have SA4 := hid (SA3.out.below b4)
  have SB4 := hid (SB3.out.below b4)
  have SX4 := hid (SX3.out.below b4)
  have SY4 := hid (set_own owny (meet_may mA))
  clear owny b4 SA3 SB3 SX3 B3
  go_wp2_with fail
  refine (BitOr.minus_calls va vb _ _ w4 SA4.out SB4.out (wok mA.win) (wok mB.win)).mono ?_
  rw [less_eq mA mB, tog_zero mA mB]
  rintro e w5 ⟨vz, nz, rfl, ownz, b5⟩
  have B5 := hid (B4.out.trans (b5.mono B4.out.size))
  have SX5 := hid (SX4.out.below b5)
  have SY5 := hid (SY4.out.below b5)
  have SZ5 := hid (set_own ownz (minus_may mA))
  clear ownz b5 SA4 SB4 SX4 SY4 B4
  have HOF3 := hid (of_help _ _ _ (ints_new [64, 1, 64] (by decide) w5))
  rw [vC] at HOF3
  go_wp2_with fail
  refine HOF3.out.mono ?_
  rintro e w6 ⟨vs, ns, rfl, owns, b6⟩
  have d6 : Below w5.heap.size w5 w6 := ((Below.refl _ _).alloc (Nat.le_refl _) _).trans (b6.mono (by simp))
  have B6 := hid (B5.out.trans (d6.mono B5.out.size))
  have SX6 := hid (SX5.out.below d6)
  have SY6 := hid (SY5.out.below d6)
  have SZ6 := hid (SZ5.out.below d6)
  have SS6 := hid (set_own owns mA)
  clear owns b6 d6 HOF3 SX5 SY5 SZ5 B5
  have a6 : Below w6.heap.size w6 (w6.alloc (.cells #[.int .i64 0, .int .u64 2, .int .i64 1, .int .u64 1] 34)) := (Below.refl _ _).alloc (Nat.le_refl _) _
  have SL := hid (set_new [(0, 2), (1, 1)] (by decide) w6)
  have A6 := hid a6
  clear a6
  go_wp2_with fail
  refine (same_sets vs _ _ _ _ (SS6.out.below A6.out) SL.out).mono ?_
  rintro e w7 ⟨rfl, q7, hw7⟩
  have d7 : Below w6.heap.size w6 w7 := by rw [hw7]; exact below_drewN A6.out q7
  have B7 := hid (B6.out.trans (d7.mono B6.out.size))
  have SX7 := hid (SX6.out.below d7)
  have SY7 := hid (SY6.out.below d7)
  have SZ7 := hid (SZ6.out.below d7)
  have hdt : decide ([(0, 2), (1, 1)] = ([(0, 2), (1, 1)] : List Wd)) = true := decide_eq_true rfl
  clear hw7 d7 SX6 SY6 SZ6 SS6 SL A6 B6
  have a7 : Below w7.heap.size w7 (w7.alloc (.cells #[.int .i64 1, .int .i64 2, .int .i64 64] 3)) := (Below.refl _ _).alloc (Nat.le_refl _) _
  have A7 := hid a7
  have IX := hid (ints_new [1, 2, 64] (by decide) w7)
  clear a7
  go_wp2_with fail
  refine (are_yes vx _ _ _ _ (SX7.out.below A7.out) (union_may mA mB) IX.out (HT.out.on (B7.out.trans (A7.out.mono B7.out.size))) vOr).mono ?_
  rintro e w8 ⟨rfl, b8⟩
  have d8 := A7.out.trans (b8.mono A7.out.size)
  have B8 := hid (B7.out.trans (d8.mono B7.out.size))
  have SY8 := hid (SY7.out.below d8)
  have SZ8 := hid (SZ7.out.below d8)
  clear b8 d8 SX7 SY7 SZ7 A7 IX B7
  have a8 : Below w8.heap.size w8 (w8.alloc (.cells #[.int .i64 1] 3)) := (Below.refl _ _).alloc (Nat.le_refl _) _
  have A8 := hid a8
  have IY := hid (ints_new [1] (by decide) w8)
  clear a8
  go_wp2_with fail
  refine (are_yes vy _ _ _ _ (SY8.out.below A8.out) (meet_may mA) IY.out (HT.out.on (B8.out.trans (A8.out.mono B8.out.size))) vAnd).mono ?_
  rintro e w9 ⟨rfl, b9⟩
  have d9 := A8.out.trans (b9.mono A8.out.size)
  have B9 := hid (B8.out.trans (d9.mono B8.out.size))
  have SZ9 := hid (SZ8.out.below d9)
  clear b9 d9 SY8 SZ8 A8 IY B8
  have a9 : Below w9.heap.size w9 (w9.alloc (.cells #[.int .i64 64] 3)) := (Below.refl _ _).alloc (Nat.le_refl _) _
  have A9 := hid a9
  have IZ := hid (ints_new [64] (by decide) w9)
  clear a9
  go_wp2_with fail
  refine (are_yes vz _ _ _ _ (SZ9.out.below A9.out) (minus_may mA) IZ.out (HT.out.on (B9.out.trans (A9.out.mono B9.out.size))) vLess).mono ?_
  rintro e w10 ⟨rfl, b10⟩
  have B10 := hid (B9.out.trans ((A9.out.trans (b10.mono A9.out.size)).mono B9.out.size))
  clear b10 B9 A9
  go_wp2
  go_ret
  exact ⟨rfl, B10.out⟩
end Go.Proofs.YtecfjjpdlohmnaaDoor.BitHelp
