/- Walks over fescuelaw13.CalcOrder, CalcDoes. -/
import Derived.Test.YtdbljknpdhpmeaaCaT
import Derived.Test.YtdbljknpdhpmeaaCaR
namespace Go.Proofs.Ytdbljknpdhpmeaa.CaU
open Go.RowKit Go.Lib SetP CaM CaK CaS CaT NumP

set_option maxRecDepth 100000 in
set_option maxHeartbeats 8000000 in
theorem calcOrder_of (CD : DoC) (a : Int) (aw : (Lit.int .i64 a).wf = true) (b : Int) (bw : (Lit.int .i64 b).wf = true) (c : Int) (cw : (Lit.int .i64 c).wf = true) (W : World) : Calls Try.prog 8 #[.int .i64 a, .int .i64 b, .int .i64 c] W (fun e W' => e = .returned (.bool true) ∧ Below W.heap.size W W') := by
  have HAL := hid (fun w => alive_of CD w)
  have HCD := hid CD
  have HIS := hid (fun op a b want wx h0 h1 ha hb => is_of CD op a b want wx h0 h1 ha hb)
  have HB0 := hid (Below.refl W.heap.size W)
  have H64a := hid (i64_of aw)
  have H64b := hid (i64_of bw)
  have H64c := hid (i64_of cw)
  clear CD aw bw cw
  rcases (by omega : a < b ∨ a = b ∨ b < a) with hab | hab | hab
  · by_cases hbc : b < c
    · have e1 : (a == b) = false := by simpa using (by omega : ¬ a = b)
      have F1 : Hid (doO 8 a b = (1, 0)) := by show _ = _; rw [do8]; first | rw [if_pos (by omega)] | rw [if_neg (by omega)]
      have F2 : Hid (doO 8 b a = (0, 0)) := by show _ = _; rw [do8]; first | rw [if_pos (by omega)] | rw [if_neg (by omega)]
      have F3 : Hid (doO 9 a b = (0, 0)) := by show _ = _; rw [do9]; first | rw [if_pos (by omega)] | rw [if_neg (by omega)]
      have F4 : Hid (doO 8 b c = (1, 0)) := by show _ = _; rw [do8]; first | rw [if_pos (by omega)] | rw [if_neg (by omega)]
      have F5 : Hid (isB 8 a c 1 = true) := by show _ = _; refine is_yes ?_; rw [do8, if_pos (by omega)]
      clear hab hbc
      go_enter Try.func8, Try.ntmps8
      go_wp2_with fail
      refine (HAL.out _).mono ?_
      rintro e w1 ⟨rfl, hb⟩
      have HB1 := hid (HB0.out.trans (hb.mono HB0.out.size)); clear hb
      go_wp2_with fail
      refine (HCD.out 8 a b _ (by decide) (by decide) H64a.out H64b.out).mono ?_
      rw [F1.out]
      rintro e w2 ⟨rfl, hb⟩
      have HB2 := hid (HB1.out.trans (hb.mono HB1.out.size)); clear hb
      go_wp2_with fail
      refine (HCD.out 8 b a _ (by decide) (by decide) H64b.out H64a.out).mono ?_
      rw [F2.out]
      rintro e w3 ⟨rfl, hb⟩
      have HB3 := hid (HB2.out.trans (hb.mono HB2.out.size)); clear hb
      go_wp2_with fail
      refine (HCD.out 9 a b _ (by decide) (by decide) H64a.out H64b.out).mono ?_
      rw [F3.out]
      rintro e w4 ⟨rfl, hb⟩
      have HB4 := hid (HB3.out.trans (hb.mono HB3.out.size)); clear hb
      go_wp2_with fail
      refine (HCD.out 8 b c _ (by decide) (by decide) H64b.out H64c.out).mono ?_
      rw [F4.out]
      rintro e w5 ⟨rfl, hb⟩
      have HB5 := hid (HB4.out.trans (hb.mono HB4.out.size)); clear hb
      go_wp2_with fail
      refine (HIS.out 8 a c 1 _ (by decide) (by decide) H64a.out H64c.out).mono ?_
      rw [F5.out]
      rintro e w6 ⟨rfl, hb⟩
      have HB6 := hid (HB5.out.trans (hb.mono HB5.out.size)); clear hb
      go_wp2
      go_ret
      exact ⟨rfl, HB6.out⟩
    · have e1 : (a == b) = false := by simpa using (by omega : ¬ a = b)
      have F1 : Hid (doO 8 a b = (1, 0)) := by show _ = _; rw [do8]; first | rw [if_pos (by omega)] | rw [if_neg (by omega)]
      have F2 : Hid (doO 8 b a = (0, 0)) := by show _ = _; rw [do8]; first | rw [if_pos (by omega)] | rw [if_neg (by omega)]
      have F3 : Hid (doO 9 a b = (0, 0)) := by show _ = _; rw [do9]; first | rw [if_pos (by omega)] | rw [if_neg (by omega)]
      have F4 : Hid (doO 8 b c = (0, 0)) := by show _ = _; rw [do8]; first | rw [if_pos (by omega)] | rw [if_neg (by omega)]
      clear hab hbc
      go_enter Try.func8, Try.ntmps8
      go_wp2_with fail
      refine (HAL.out _).mono ?_
      rintro e w1 ⟨rfl, hb⟩
      have HB1 := hid (HB0.out.trans (hb.mono HB0.out.size)); clear hb
      go_wp2_with fail
      refine (HCD.out 8 a b _ (by decide) (by decide) H64a.out H64b.out).mono ?_
      rw [F1.out]
      rintro e w2 ⟨rfl, hb⟩
      have HB2 := hid (HB1.out.trans (hb.mono HB1.out.size)); clear hb
      go_wp2_with fail
      refine (HCD.out 8 b a _ (by decide) (by decide) H64b.out H64a.out).mono ?_
      rw [F2.out]
      rintro e w3 ⟨rfl, hb⟩
      have HB3 := hid (HB2.out.trans (hb.mono HB2.out.size)); clear hb
      go_wp2_with fail
      refine (HCD.out 9 a b _ (by decide) (by decide) H64a.out H64b.out).mono ?_
      rw [F3.out]
      rintro e w4 ⟨rfl, hb⟩
      have HB4 := hid (HB3.out.trans (hb.mono HB3.out.size)); clear hb
      go_wp2_with fail
      refine (HCD.out 8 b c _ (by decide) (by decide) H64b.out H64c.out).mono ?_
      rw [F4.out]
      rintro e w5 ⟨rfl, hb⟩
      have HB5 := hid (HB4.out.trans (hb.mono HB4.out.size)); clear hb
      go_wp2
      go_ret
      exact ⟨rfl, HB5.out⟩
  · by_cases hbc : b < c
    · have e1 : (a == b) = true := by simpa using (by omega : a = b)
      have F1 : Hid (doO 8 a b = (0, 0)) := by show _ = _; rw [do8]; first | rw [if_pos (by omega)] | rw [if_neg (by omega)]
      have F2 : Hid (doO 8 b a = (0, 0)) := by show _ = _; rw [do8]; first | rw [if_pos (by omega)] | rw [if_neg (by omega)]
      have F3 : Hid (doO 9 a b = (1, 0)) := by show _ = _; rw [do9]; first | rw [if_pos (by omega)] | rw [if_neg (by omega)]
      have F4 : Hid (doO 8 b c = (1, 0)) := by show _ = _; rw [do8]; first | rw [if_pos (by omega)] | rw [if_neg (by omega)]
      clear hab hbc
      go_enter Try.func8, Try.ntmps8
      go_wp2_with fail
      refine (HAL.out _).mono ?_
      rintro e w1 ⟨rfl, hb⟩
      have HB1 := hid (HB0.out.trans (hb.mono HB0.out.size)); clear hb
      go_wp2_with fail
      refine (HCD.out 8 a b _ (by decide) (by decide) H64a.out H64b.out).mono ?_
      rw [F1.out]
      rintro e w2 ⟨rfl, hb⟩
      have HB2 := hid (HB1.out.trans (hb.mono HB1.out.size)); clear hb
      go_wp2_with fail
      refine (HCD.out 8 b a _ (by decide) (by decide) H64b.out H64a.out).mono ?_
      rw [F2.out]
      rintro e w3 ⟨rfl, hb⟩
      have HB3 := hid (HB2.out.trans (hb.mono HB2.out.size)); clear hb
      go_wp2_with fail
      refine (HCD.out 9 a b _ (by decide) (by decide) H64a.out H64b.out).mono ?_
      rw [F3.out]
      rintro e w4 ⟨rfl, hb⟩
      have HB4 := hid (HB3.out.trans (hb.mono HB3.out.size)); clear hb
      go_wp2_with fail
      refine (HCD.out 8 b c _ (by decide) (by decide) H64b.out H64c.out).mono ?_
      rw [F4.out]
      rintro e w5 ⟨rfl, hb⟩
      have HB5 := hid (HB4.out.trans (hb.mono HB4.out.size)); clear hb
      go_wp2
      go_ret
      exact ⟨rfl, HB5.out⟩
    · have e1 : (a == b) = true := by simpa using (by omega : a = b)
      have F1 : Hid (doO 8 a b = (0, 0)) := by show _ = _; rw [do8]; first | rw [if_pos (by omega)] | rw [if_neg (by omega)]
      have F2 : Hid (doO 8 b a = (0, 0)) := by show _ = _; rw [do8]; first | rw [if_pos (by omega)] | rw [if_neg (by omega)]
      have F3 : Hid (doO 9 a b = (1, 0)) := by show _ = _; rw [do9]; first | rw [if_pos (by omega)] | rw [if_neg (by omega)]
      have F4 : Hid (doO 8 b c = (0, 0)) := by show _ = _; rw [do8]; first | rw [if_pos (by omega)] | rw [if_neg (by omega)]
      clear hab hbc
      go_enter Try.func8, Try.ntmps8
      go_wp2_with fail
      refine (HAL.out _).mono ?_
      rintro e w1 ⟨rfl, hb⟩
      have HB1 := hid (HB0.out.trans (hb.mono HB0.out.size)); clear hb
      go_wp2_with fail
      refine (HCD.out 8 a b _ (by decide) (by decide) H64a.out H64b.out).mono ?_
      rw [F1.out]
      rintro e w2 ⟨rfl, hb⟩
      have HB2 := hid (HB1.out.trans (hb.mono HB1.out.size)); clear hb
      go_wp2_with fail
      refine (HCD.out 8 b a _ (by decide) (by decide) H64b.out H64a.out).mono ?_
      rw [F2.out]
      rintro e w3 ⟨rfl, hb⟩
      have HB3 := hid (HB2.out.trans (hb.mono HB2.out.size)); clear hb
      go_wp2_with fail
      refine (HCD.out 9 a b _ (by decide) (by decide) H64a.out H64b.out).mono ?_
      rw [F3.out]
      rintro e w4 ⟨rfl, hb⟩
      have HB4 := hid (HB3.out.trans (hb.mono HB3.out.size)); clear hb
      go_wp2_with fail
      refine (HCD.out 8 b c _ (by decide) (by decide) H64b.out H64c.out).mono ?_
      rw [F4.out]
      rintro e w5 ⟨rfl, hb⟩
      have HB5 := hid (HB4.out.trans (hb.mono HB4.out.size)); clear hb
      go_wp2
      go_ret
      exact ⟨rfl, HB5.out⟩
  · by_cases hbc : b < c
    · have e1 : (a == b) = false := by simpa using (by omega : ¬ a = b)
      have F1 : Hid (doO 8 a b = (0, 0)) := by show _ = _; rw [do8]; first | rw [if_pos (by omega)] | rw [if_neg (by omega)]
      have F2 : Hid (doO 8 b a = (1, 0)) := by show _ = _; rw [do8]; first | rw [if_pos (by omega)] | rw [if_neg (by omega)]
      have F3 : Hid (doO 9 a b = (0, 0)) := by show _ = _; rw [do9]; first | rw [if_pos (by omega)] | rw [if_neg (by omega)]
      have F4 : Hid (doO 8 b c = (1, 0)) := by show _ = _; rw [do8]; first | rw [if_pos (by omega)] | rw [if_neg (by omega)]
      clear hab hbc
      go_enter Try.func8, Try.ntmps8
      go_wp2_with fail
      refine (HAL.out _).mono ?_
      rintro e w1 ⟨rfl, hb⟩
      have HB1 := hid (HB0.out.trans (hb.mono HB0.out.size)); clear hb
      go_wp2_with fail
      refine (HCD.out 8 a b _ (by decide) (by decide) H64a.out H64b.out).mono ?_
      rw [F1.out]
      rintro e w2 ⟨rfl, hb⟩
      have HB2 := hid (HB1.out.trans (hb.mono HB1.out.size)); clear hb
      go_wp2_with fail
      refine (HCD.out 8 b a _ (by decide) (by decide) H64b.out H64a.out).mono ?_
      rw [F2.out]
      rintro e w3 ⟨rfl, hb⟩
      have HB3 := hid (HB2.out.trans (hb.mono HB2.out.size)); clear hb
      go_wp2_with fail
      refine (HCD.out 9 a b _ (by decide) (by decide) H64a.out H64b.out).mono ?_
      rw [F3.out]
      rintro e w4 ⟨rfl, hb⟩
      have HB4 := hid (HB3.out.trans (hb.mono HB3.out.size)); clear hb
      go_wp2_with fail
      refine (HCD.out 8 b c _ (by decide) (by decide) H64b.out H64c.out).mono ?_
      rw [F4.out]
      rintro e w5 ⟨rfl, hb⟩
      have HB5 := hid (HB4.out.trans (hb.mono HB4.out.size)); clear hb
      go_wp2
      go_ret
      exact ⟨rfl, HB5.out⟩
    · have e1 : (a == b) = false := by simpa using (by omega : ¬ a = b)
      have F1 : Hid (doO 8 a b = (0, 0)) := by show _ = _; rw [do8]; first | rw [if_pos (by omega)] | rw [if_neg (by omega)]
      have F2 : Hid (doO 8 b a = (1, 0)) := by show _ = _; rw [do8]; first | rw [if_pos (by omega)] | rw [if_neg (by omega)]
      have F3 : Hid (doO 9 a b = (0, 0)) := by show _ = _; rw [do9]; first | rw [if_pos (by omega)] | rw [if_neg (by omega)]
      have F4 : Hid (doO 8 b c = (0, 0)) := by show _ = _; rw [do8]; first | rw [if_pos (by omega)] | rw [if_neg (by omega)]
      clear hab hbc
      go_enter Try.func8, Try.ntmps8
      go_wp2_with fail
      refine (HAL.out _).mono ?_
      rintro e w1 ⟨rfl, hb⟩
      have HB1 := hid (HB0.out.trans (hb.mono HB0.out.size)); clear hb
      go_wp2_with fail
      refine (HCD.out 8 a b _ (by decide) (by decide) H64a.out H64b.out).mono ?_
      rw [F1.out]
      rintro e w2 ⟨rfl, hb⟩
      have HB2 := hid (HB1.out.trans (hb.mono HB1.out.size)); clear hb
      go_wp2_with fail
      refine (HCD.out 8 b a _ (by decide) (by decide) H64b.out H64a.out).mono ?_
      rw [F2.out]
      rintro e w3 ⟨rfl, hb⟩
      have HB3 := hid (HB2.out.trans (hb.mono HB2.out.size)); clear hb
      go_wp2_with fail
      refine (HCD.out 9 a b _ (by decide) (by decide) H64a.out H64b.out).mono ?_
      rw [F3.out]
      rintro e w4 ⟨rfl, hb⟩
      have HB4 := hid (HB3.out.trans (hb.mono HB3.out.size)); clear hb
      go_wp2_with fail
      refine (HCD.out 8 b c _ (by decide) (by decide) H64b.out H64c.out).mono ?_
      rw [F4.out]
      rintro e w5 ⟨rfl, hb⟩
      have HB5 := hid (HB4.out.trans (hb.mono HB4.out.size)); clear hb
      go_wp2
      go_ret
      exact ⟨rfl, HB5.out⟩
set_option maxHeartbeats 4000000 in
theorem calcDoes_of (CD : DoC) (op : Int) (opw : (Lit.int .u8 op).wf = true) (a : Int) (aw : (Lit.int .i64 a).wf = true) (b : Int) (bw : (Lit.int .i64 b).wf = true) (W : World) : Calls Try.prog 4 #[.int .u8 op, .int .i64 a, .int .i64 b] W (fun e W' => e = .returned (.bool true) ∧ Below W.heap.size W W') := by
  have ho : 0 ≤ op ∧ op ≤ 255 := by simpa [Lit.wf, IntKind.min, IntKind.max, IntKind.signed, IntKind.bits] using opw
  have HC := hid (CD op a b W ho.1 ho.2 (i64_of aw) (i64_of bw))
  have HR := hid (fun w => CaR.do_calls op a b w ho (i64_of aw) (i64_of bw))
  clear CD ho opw aw bw
  generalize (doO op a b).1 = x at *
  generalize (doO op a b).2 = y at *
  have e1 : (x == x) = true := by simp
  have e2 : (y == y) = true := by simp
  go_enter Try.func4, Try.ntmps4
  go_wp2_with fail
  refine HC.out.mono ?_
  rintro e w1 ⟨rfl, hb1⟩
  clear HC
  go_wp2_with fail
  refine (HR.out _).mono ?_
  rintro e w2 ⟨rfl, rfl⟩
  clear HR
  go_wp2
  go_ret
  exact ⟨rfl, hb1⟩
end Go.Proofs.Ytdbljknpdhpmeaa.CaU
