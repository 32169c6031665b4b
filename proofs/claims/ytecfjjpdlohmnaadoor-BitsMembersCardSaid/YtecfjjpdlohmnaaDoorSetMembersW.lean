/- Walk over the statement BitsMembers. -/
import Derived.Test.YtecfjjpdlohmnaaDoorBitHelp
import Derived.WalkLawsBesides
namespace Go.Proofs.YtecfjjpdlohmnaaDoor.SetMembersW
open Go.RowKit Go.Lib SetP SetO SetNum SetIn SetWith SetT SetW2 SetF SetG SetC SetSame BitCheck BitHas BitOnes BitTz BitList BitSame BitClone BitOf BitOr BitOps BitHelp

theorem has_in {s : List Wd} {n : Int} (hm : MayW s) (h0 : 0 ≤ n) (h1 : n < 1048576) : hasB s n = inS s n ∧ hasE s n = 0 := by
  unfold hasB hasE hasS
  rw [if_pos hm, if_pos ⟨h0, h1⟩]
  exact ⟨rfl, rfl⟩
/-- Has of a set that may be, at a number that may be -/
theorem has_at (v : Value) (s : List Wd) (n : Int) (b : Bool) (w : World) (hs : SetAt w v s) (hm : MayW s) (h0 : 0 ≤ n) (h1 : n < 1048576) (he : inS s n = b) :
    Calls Tryd.prog 9 #[v, .int .i64 n] w fun e w' => e = .returned (.tuple #[.bool b, .int .i64 0]) ∧ Below w.heap.size w w' := by
  have := BitHas.has_calls v s n w hs (wok hm.win)
  rw [(has_in hm h0 h1).1, (has_in hm h0 h1).2, he] at this
  exact this

set_option maxRecDepth 100000 in
set_option maxHeartbeats 4000000 in
theorem walk (w : World) (va : Value) (a : List Wd) (ha : SetAt w va a) (hoka : ∀ x ∈ a, WdOk x) (vb : Value) (b : List Wd) (hb : SetAt w vb b) (hokb : ∀ x ∈ b, WdOk x) (n : Int) (_hn : (Lit.int .i64 n).wf = true) (ht : Tab w) :
    Calls Tryd.prog 5 #[va, vb, .int .i64 n] w fun e w' => e = .returned (.bool true) ∧ Below w.heap.size w w' := by
  obtain ⟨oa, capa, rfl⟩ : ∃ ao cap, va = .slice ao a.length cap := by obtain ⟨ao, cap, rfl, _⟩ := ha; exact ⟨ao, cap, rfl⟩
  have Ha0 : Hid (∀ w', Below w.heap.size w w' → SetAt w' (.slice oa a.length capa) a) := fun w' h => ha.below h
  have HOa := hid hoka
  obtain ⟨ob, capb, rfl⟩ : ∃ ao cap, vb = .slice ao b.length cap := by obtain ⟨ao, cap, rfl, _⟩ := hb; exact ⟨ao, cap, rfl⟩
  have Hb0 : Hid (∀ w', Below w.heap.size w w' → SetAt w' (.slice ob b.length capb) b) := fun w' h => hb.below h
  have HOb := hid hokb
  have HT := hid ht
  have HAL := hid (alive_calls w ht)
  clear ha hoka hb hokb ht
  by_cases h0 : 10 < a.length
  · go_enter Tryd.func5, Tryd.ntmps5
    go_wp2_with fail
    refine (HAL.out).mono ?_
    rintro e w1 ⟨rfl, b1⟩
    go_wp2
    go_ret
    exact ⟨rfl, b1⟩
  by_cases h1 : 10 < b.length
  · go_enter Tryd.func5, Tryd.ntmps5
    go_wp2_with fail
    refine (HAL.out).mono ?_
    rintro e w1 ⟨rfl, b1⟩
    go_wp2
    go_ret
    exact ⟨rfl, b1⟩
  by_cases ma : MayW a
  rotate_left
  · have Na := hid (chk_no ma)
    clear ma
    go_enter Tryd.func5, Tryd.ntmps5
    go_wp2_with fail
    refine (HAL.out).mono ?_
    rintro e w1 ⟨rfl, b1⟩
    have C1 := hid b1
    clear b1
    go_wp2_with fail
    refine (BitCheck.check_calls _ a w1 (Ha0.out _ C1.out) HOa.out).mono ?_
    rw [Na.out]
    rintro e w2 ⟨rfl, b2⟩
    have C2 := hid (C1.out.trans (b2.mono C1.out.size))
    clear b2 C1
    go_wp2
    go_ret
    exact ⟨rfl, C2.out⟩
  by_cases mb : MayW b
  rotate_left
  · have Nb := hid (chk_no mb)
    have Na := hid (chk_yes ma)
    clear ma mb
    go_enter Tryd.func5, Tryd.ntmps5
    go_wp2_with fail
    refine (HAL.out).mono ?_
    rintro e w1 ⟨rfl, b1⟩
    have C1 := hid b1
    clear b1
    go_wp2_with fail
    refine (BitCheck.check_calls _ a w1 (Ha0.out _ C1.out) HOa.out).mono ?_
    rw [Na.out]
    rintro e w2 ⟨rfl, b2⟩
    have C2 := hid (C1.out.trans (b2.mono C1.out.size))
    clear b2 C1
    go_wp2_with fail
    refine (BitCheck.check_calls _ b w2 (Hb0.out _ C2.out) HOb.out).mono ?_
    rw [Nb.out]
    rintro e w3 ⟨rfl, b3⟩
    have C3 := hid (C2.out.trans (b3.mono C2.out.size))
    clear b3 C2
    go_wp2
    go_ret
    exact ⟨rfl, C3.out⟩
  by_cases n0 : n < 0
  · have Na := hid (chk_yes ma)
    have Nb := hid (chk_yes mb)
    clear ma mb
    go_enter Tryd.func5, Tryd.ntmps5
    go_wp2_with fail
    refine (HAL.out).mono ?_
    rintro e w1 ⟨rfl, b1⟩
    have C1 := hid b1
    clear b1
    go_wp2_with fail
    refine (BitCheck.check_calls _ a w1 (Ha0.out _ C1.out) HOa.out).mono ?_
    rw [Na.out]
    rintro e w2 ⟨rfl, b2⟩
    have C2 := hid (C1.out.trans (b2.mono C1.out.size))
    clear b2 C1
    go_wp2_with fail
    refine (BitCheck.check_calls _ b w2 (Hb0.out _ C2.out) HOb.out).mono ?_
    rw [Nb.out]
    rintro e w3 ⟨rfl, b3⟩
    have C3 := hid (C2.out.trans (b3.mono C2.out.size))
    clear b3 C2
    go_wp2
    go_ret
    exact ⟨rfl, C3.out⟩
  by_cases n1 : 1048576 ≤ n
  · have Na := hid (chk_yes ma)
    have Nb := hid (chk_yes mb)
    clear ma mb
    go_enter Tryd.func5, Tryd.ntmps5
    go_wp2_with fail
    refine (HAL.out).mono ?_
    rintro e w1 ⟨rfl, b1⟩
    have C1 := hid b1
    clear b1
    go_wp2_with fail
    refine (BitCheck.check_calls _ a w1 (Ha0.out _ C1.out) HOa.out).mono ?_
    rw [Na.out]
    rintro e w2 ⟨rfl, b2⟩
    have C2 := hid (C1.out.trans (b2.mono C1.out.size))
    clear b2 C1
    go_wp2_with fail
    refine (BitCheck.check_calls _ b w2 (Hb0.out _ C2.out) HOb.out).mono ?_
    rw [Nb.out]
    rintro e w3 ⟨rfl, b3⟩
    have C3 := hid (C2.out.trans (b3.mono C2.out.size))
    clear b3 C2
    go_wp2
    go_ret
    exact ⟨rfl, C3.out⟩
  have Ma := hid ma
  have Mb := hid mb
  have Na := hid (chk_yes ma)
  have Nb := hid (chk_yes mb)
  obtain ⟨pa, hpa⟩ : ∃ pa, inS a n = pa := ⟨_, rfl⟩
  obtain ⟨pb, hpb⟩ : ∃ pb, inS b n = pb := ⟨_, rfl⟩
  have hpx : inS (unionS a b) n = (pa || pb) := by rw [inS_union ma mb (by omega) (by omega), hpa, hpb]
  have hpy : inS (meetS a b) n = (pa && pb) := by rw [inS_meet ma (by omega) (by omega), hpa, hpb]
  have hpz : inS (minusS a b) n = (pa && !pb) := by rw [inS_minus ma (by omega) (by omega), hpa, hpb]
  have HPA := hid hpa
  have HPB := hid hpb
  have HPX := hid hpx
  have HPY := hid hpy
  have HPZ := hid hpz
  have n0' : 0 ≤ n := by omega
  have n1' : n < 1048576 := by omega
  clear ma mb hpa hpb hpx hpy hpz n0 n1
  have C0 := hid (Below.refl w.heap.size w)
  go_enter Tryd.func5, Tryd.ntmps5
  go_wp2_with fail
  refine (HAL.out).mono ?_
  rintro e w1 ⟨rfl, b1⟩
  have C1 := hid (C0.out.trans (b1.mono C0.out.size))
  clear C0
  clear b1
  go_wp2_with fail
  refine (BitCheck.check_calls _ a w1 (Ha0.out _ C1.out) HOa.out).mono ?_
  rw [Na.out]
  rintro e w2 ⟨rfl, b2⟩
  have C2 := hid (C1.out.trans (b2.mono C1.out.size))
  clear C1
  clear b2
  go_wp2_with fail
  refine (BitCheck.check_calls _ b w2 (Hb0.out _ C2.out) HOb.out).mono ?_
  rw [Nb.out]
  rintro e w3 ⟨rfl, b3⟩
  have C3 := hid (C2.out.trans (b3.mono C2.out.size))
  clear C2
  clear b3
  go_wp2_with fail
  refine (BitOr.or_calls _ _ a b w3 (Ha0.out _ C3.out) (Hb0.out _ C3.out) HOa.out HOb.out).mono ?_
  rw [or_eq Ma.out Mb.out, tog_zero Ma.out Mb.out]
  rintro e w4 ⟨vx, nx, rfl, own, b4⟩
  have C4 := hid (C3.out.trans (b4.mono C3.out.size))
  clear C3
  have Sx_4 := hid (set_own own (union_may Ma.out Mb.out))
  clear own
  clear b4
  go_wp2_with fail
  refine (BitOr.and_calls _ _ a b w4 (Ha0.out _ C4.out) (Hb0.out _ C4.out) HOa.out HOb.out).mono ?_
  rw [and_eq Ma.out Mb.out, tog_zero Ma.out Mb.out]
  rintro e w5 ⟨vy, ny, rfl, own, b5⟩
  have Sx_5 := hid (Sx_4.out.below b5)
  have C5 := hid (C4.out.trans (b5.mono C4.out.size))
  clear C4 Sx_4
  have Sy_5 := hid (set_own own (meet_may Ma.out))
  clear own
  clear b5
  go_wp2_with fail
  refine (BitOr.minus_calls _ _ a b w5 (Ha0.out _ C5.out) (Hb0.out _ C5.out) HOa.out HOb.out).mono ?_
  rw [less_eq Ma.out Mb.out, tog_zero Ma.out Mb.out]
  rintro e w6 ⟨vz, nz, rfl, own, b6⟩
  have Sx_6 := hid (Sx_5.out.below b6)
  have Sy_6 := hid (Sy_5.out.below b6)
  have C6 := hid (C5.out.trans (b6.mono C5.out.size))
  clear C5 Sx_5 Sy_5
  have Sz_6 := hid (set_own own (minus_may Ma.out))
  clear own
  clear b6
  go_wp2_with fail
  refine (has_at _ a n pa w6 (Ha0.out _ C6.out) Ma.out n0' n1' HPA.out).mono ?_
  rintro e w7 ⟨rfl, b7⟩
  have Sx_7 := hid (Sx_6.out.below b7)
  have Sy_7 := hid (Sy_6.out.below b7)
  have Sz_7 := hid (Sz_6.out.below b7)
  have C7 := hid (C6.out.trans (b7.mono C6.out.size))
  clear C6 Sx_6 Sy_6 Sz_6
  clear b7
  go_wp2_with fail
  refine (has_at _ b n pb w7 (Hb0.out _ C7.out) Mb.out n0' n1' HPB.out).mono ?_
  rintro e w8 ⟨rfl, b8⟩
  have Sx_8 := hid (Sx_7.out.below b8)
  have Sy_8 := hid (Sy_7.out.below b8)
  have Sz_8 := hid (Sz_7.out.below b8)
  have C8 := hid (C7.out.trans (b8.mono C7.out.size))
  clear C7 Sx_7 Sy_7 Sz_7
  clear b8
  go_wp2_with fail
  refine (has_at vx _ n _ w8 Sx_8.out (union_may Ma.out Mb.out) n0' n1' HPX.out).mono ?_
  rintro e w9 ⟨rfl, b9⟩
  have Sx_9 := hid (Sx_8.out.below b9)
  have Sy_9 := hid (Sy_8.out.below b9)
  have Sz_9 := hid (Sz_8.out.below b9)
  have C9 := hid (C8.out.trans (b9.mono C8.out.size))
  clear C8 Sx_8 Sy_8 Sz_8
  clear b9
  clear Sx_9
  go_wp2_with fail
  refine (has_at vy _ n _ w9 Sy_9.out (meet_may Ma.out) n0' n1' HPY.out).mono ?_
  rintro e w10 ⟨rfl, b10⟩
  have Sy_10 := hid (Sy_9.out.below b10)
  have Sz_10 := hid (Sz_9.out.below b10)
  have C10 := hid (C9.out.trans (b10.mono C9.out.size))
  clear C9 Sy_9 Sz_9
  clear b10
  clear Sy_10
  go_wp2_with fail
  refine (has_at vz _ n _ w10 Sz_10.out (minus_may Ma.out) n0' n1' HPZ.out).mono ?_
  rintro e w11 ⟨rfl, b11⟩
  have Sz_11 := hid (Sz_10.out.below b11)
  have C11 := hid (C10.out.trans (b11.mono C10.out.size))
  clear C10 Sz_10
  clear b11
  clear Sz_11
  clear HPA HPB HPX HPY HPZ
  have hnot : ∀ (x : Bool) (w : World), (Op.unary .not (.bool x)).run Tryd.prog w = .ok (.bool (!x)) w := fun _ _ => rfl
  cases pa <;> cases pb
  all_goals
    simp only [Bool.or_self, Bool.and_self, Bool.or_true, Bool.and_true, Bool.and_false, Bool.not_true, Bool.not_false, Bool.or_false]
    go_wp2
    go_ret
    exact ⟨rfl, C11.out⟩
end Go.Proofs.YtecfjjpdlohmnaaDoor.SetMembersW
