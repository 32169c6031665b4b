/- Walks over fescuelaw13.CalcDiv. -/
import Derived.Test.YtdbljknpdhpmeaaCaT
import Derived.Test.YtdbljknpdhpmeaaCaR
namespace Go.Proofs.Ytdbljknpdhpmeaa.CaV
open Go.RowKit Go.Lib SetP CaM CaK CaS CaT NumP

set_option maxRecDepth 100000 in
set_option maxHeartbeats 8000000 in
theorem calcDiv_of (CD : DoC) (a : Int) (aw : (Lit.int .i64 a).wf = true) (b : Int) (bw : (Lit.int .i64 b).wf = true) (W : World) : Calls Try.prog 7 #[.int .i64 a, .int .i64 b] W (fun e W' => e = .returned (.bool true) ∧ Below W.heap.size W W') := by
  have HAL := hid (fun w => alive_of CD w)
  have HCD := hid CD
  have HIS := hid (fun op a b want wx h0 h1 ha hb => is_of CD op a b want wx h0 h1 ha hb)
  have HB0 := hid (Below.refl W.heap.size W)
  have H64a := hid (i64_of aw)
  have H64b := hid (i64_of bw)
  clear CD aw bw
  by_cases hb0 : b = 0
  · subst hb0
    have F1 := hid (do70 a)
    go_enter Try.func7, Try.ntmps7
    go_wp2_with fail
    refine (HAL.out _).mono ?_
    rintro e w1 ⟨rfl, hb⟩
    have HB1 := hid (HB0.out.trans (hb.mono HB0.out.size)); clear hb
    go_wp2_with fail
    refine (HCD.out 7 a 0 _ (by decide) (by decide) H64a.out H64b.out).mono ?_
    rw [F1.out]
    rintro e w2 ⟨rfl, hb⟩
    have HB2 := hid (HB1.out.trans (hb.mono HB1.out.size)); clear hb
    go_wp2
    all_goals first | (exfalso; omega) | (go_ret; exact ⟨rfl, HB2.out⟩)
  obtain ⟨q, hq⟩ : ∃ q, q = wr (a.tdiv b) := ⟨_, rfl⟩
  have F1 : Hid (doO 7 a b = (q, 0)) := by show _ = _; rw [do7 hb0, hq]
  have eb : (b == 0) = false := by simpa using hb0
  by_cases hm : a = -9223372036854775808 ∨ b = -9223372036854775808
  · clear hq
    go_enter Try.func7, Try.ntmps7
    go_wp2_with fail
    refine (HAL.out _).mono ?_
    rintro e w1 ⟨rfl, hb⟩
    have HB1 := hid (HB0.out.trans (hb.mono HB0.out.size)); clear hb
    go_wp2_with fail
    refine (HCD.out 7 a b _ (by decide) (by decide) H64a.out H64b.out).mono ?_
    rw [F1.out]
    rintro e w2 ⟨rfl, hb⟩
    have HB2 := hid (HB1.out.trans (hb.mono HB1.out.size)); clear hb
    rcases hm with rfl | rfl
    · go_wp2
      all_goals first | (exfalso; omega) | (go_ret; exact ⟨rfl, HB2.out⟩)
    · by_cases ha : a = -9223372036854775808
      · have e1 : (a == -9223372036854775808) = true := by simpa using ha
        go_wp2
        all_goals first | (exfalso; omega) | (go_ret; exact ⟨rfl, HB2.out⟩)
      · have e1 : (a == -9223372036854775808) = false := by simpa using ha
        go_wp2
        all_goals first | (exfalso; omega) | (go_ret; exact ⟨rfl, HB2.out⟩)
  have ea1 : (a == -9223372036854775808) = false := by simpa using fun e => hm (.inl e)
  have eb1 : (b == -9223372036854775808) = false := by simpa using fun e => hm (.inr e)
  obtain ⟨d1, d2, d3, d4, d5, d6⟩ := div_rest H64a.out H64b.out (fun e => hm (.inl e)) hb0
  rw [d1] at hq
  rw [← hq] at d2 d3 d6
  obtain ⟨m, hmm⟩ : ∃ m, m = q * b := ⟨_, rfl⟩
  rw [← hmm] at d2 d3 d6
  obtain ⟨r, hr⟩ : ∃ r, r = a.tmod b := ⟨_, rfl⟩
  rw [← hr] at d3 d4 d5 d6
  have H64q : Hid (I64 q) := by show I64 _; rw [hq, ← d1]; exact wr_i64 _
  have H64m : Hid (I64 m) := by show I64 _; rw [← d2]; exact wr_i64 _
  have H64r : Hid (I64 r) := by show I64 _; rw [← d3]; exact wr_i64 _
  have F2 : Hid (doO 6 q b = (m, 0)) := by show _ = _; rw [do6, ← hmm, d2]
  have F3 : Hid (doO 5 a m = (r, 0)) := by show _ = _; rw [do5, d3]
  have F4 : Hid (isB 4 m r a = true) := by show _ = _; refine is_yes ?_; rw [do4, d6]
  have hbb := H64b.out
  unfold I64 at hbb
  have w1 : r < 0 → wrap64 (-r) = -r := fun h => by rw [wr_64, wr_in]; unfold I64; omega
  have w2 : b < 0 → wrap64 (-b) = -b := fun h => by rw [wr_64, wr_in]; unfold I64; omega
  clear d1 d2 d3 d6 hmm hr hq hbb hm
  rcases (by omega : r = 0 ∨ (r < 0 ∧ a < 0) ∨ (0 < r ∧ ¬ a < 0)) with h | ⟨h, ha⟩ | ⟨h, ha⟩
  · subst h
    by_cases hn : b < 0
    · have q2 := w2 hn
      have hlt : 0 < -b := by omega
      clear d4 d5 w1 w2 hb0
      go_enter Try.func7, Try.ntmps7
      go_wp2_with fail
      refine (HAL.out _).mono ?_
      rintro e w1 ⟨rfl, hb⟩
      have HB1 := hid (HB0.out.trans (hb.mono HB0.out.size)); clear hb
      go_wp2_with fail
      refine (HCD.out 7 a b _ (by decide) (by decide) H64a.out H64b.out).mono ?_
      rw [F1.out]
      rintro e w2 ⟨rfl, hb⟩
      have HB2 := hid (HB1.out.trans (hb.mono HB1.out.size)); clear hb
      go_wp2_with fail
      refine (HCD.out 6 q b _ (by decide) (by decide) H64q.out H64b.out).mono ?_
      rw [F2.out]
      rintro e w3 ⟨rfl, hb⟩
      have HB3 := hid (HB2.out.trans (hb.mono HB2.out.size)); clear hb
      go_wp2_with fail
      refine (HCD.out 5 a m _ (by decide) (by decide) H64a.out H64m.out).mono ?_
      rw [F3.out]
      rintro e w4 ⟨rfl, hb⟩
      have HB4 := hid (HB3.out.trans (hb.mono HB3.out.size)); clear hb
      go_wp2_with fail
      all_goals (try (exfalso; omega))
      refine (HIS.out 4 m 0 a _ (by decide) (by decide) H64m.out H64r.out).mono ?_
      rw [F4.out]
      rintro e w5 ⟨rfl, hb⟩
      have HB5 := hid (HB4.out.trans (hb.mono HB4.out.size)); clear hb
      go_wp2
      go_ret
      exact ⟨rfl, HB5.out⟩
    · have hlt : 0 < b := by omega
      clear d4 d5 w1 w2 hb0
      go_enter Try.func7, Try.ntmps7
      go_wp2_with fail
      refine (HAL.out _).mono ?_
      rintro e w1 ⟨rfl, hb⟩
      have HB1 := hid (HB0.out.trans (hb.mono HB0.out.size)); clear hb
      go_wp2_with fail
      refine (HCD.out 7 a b _ (by decide) (by decide) H64a.out H64b.out).mono ?_
      rw [F1.out]
      rintro e w2 ⟨rfl, hb⟩
      have HB2 := hid (HB1.out.trans (hb.mono HB1.out.size)); clear hb
      go_wp2_with fail
      refine (HCD.out 6 q b _ (by decide) (by decide) H64q.out H64b.out).mono ?_
      rw [F2.out]
      rintro e w3 ⟨rfl, hb⟩
      have HB3 := hid (HB2.out.trans (hb.mono HB2.out.size)); clear hb
      go_wp2_with fail
      refine (HCD.out 5 a m _ (by decide) (by decide) H64a.out H64m.out).mono ?_
      rw [F3.out]
      rintro e w4 ⟨rfl, hb⟩
      have HB4 := hid (HB3.out.trans (hb.mono HB3.out.size)); clear hb
      go_wp2_with fail
      all_goals (try (exfalso; omega))
      refine (HIS.out 4 m 0 a _ (by decide) (by decide) H64m.out H64r.out).mono ?_
      rw [F4.out]
      rintro e w5 ⟨rfl, hb⟩
      have HB5 := hid (HB4.out.trans (hb.mono HB4.out.size)); clear hb
      go_wp2
      go_ret
      exact ⟨rfl, HB5.out⟩
  · have er : (r == 0) = false := by simpa using (by omega : ¬ r = 0)
    have q1 := w1 h
    have dr : decide (r < 0) = true := decide_eq_true h
    have da : decide (a < 0) = true := decide_eq_true ha
    by_cases hn : b < 0
    · have q2 := w2 hn
      have hlt : -r < -b := by omega
      clear d4 d5 w1 w2 hb0
      go_enter Try.func7, Try.ntmps7
      go_wp2_with fail
      refine (HAL.out _).mono ?_
      rintro e w1 ⟨rfl, hb⟩
      have HB1 := hid (HB0.out.trans (hb.mono HB0.out.size)); clear hb
      go_wp2_with fail
      refine (HCD.out 7 a b _ (by decide) (by decide) H64a.out H64b.out).mono ?_
      rw [F1.out]
      rintro e w2 ⟨rfl, hb⟩
      have HB2 := hid (HB1.out.trans (hb.mono HB1.out.size)); clear hb
      go_wp2_with fail
      refine (HCD.out 6 q b _ (by decide) (by decide) H64q.out H64b.out).mono ?_
      rw [F2.out]
      rintro e w3 ⟨rfl, hb⟩
      have HB3 := hid (HB2.out.trans (hb.mono HB2.out.size)); clear hb
      go_wp2_with fail
      refine (HCD.out 5 a m _ (by decide) (by decide) H64a.out H64m.out).mono ?_
      rw [F3.out]
      rintro e w4 ⟨rfl, hb⟩
      have HB4 := hid (HB3.out.trans (hb.mono HB3.out.size)); clear hb
      go_wp2_with fail
      all_goals (try (exfalso; omega))
      refine (HIS.out 4 m r a _ (by decide) (by decide) H64m.out H64r.out).mono ?_
      rw [F4.out]
      rintro e w5 ⟨rfl, hb⟩
      have HB5 := hid (HB4.out.trans (hb.mono HB4.out.size)); clear hb
      go_wp2
      go_ret
      exact ⟨rfl, HB5.out⟩
    · have hlt : -r < b := by omega
      clear d4 d5 w1 w2 hb0
      go_enter Try.func7, Try.ntmps7
      go_wp2_with fail
      refine (HAL.out _).mono ?_
      rintro e w1 ⟨rfl, hb⟩
      have HB1 := hid (HB0.out.trans (hb.mono HB0.out.size)); clear hb
      go_wp2_with fail
      refine (HCD.out 7 a b _ (by decide) (by decide) H64a.out H64b.out).mono ?_
      rw [F1.out]
      rintro e w2 ⟨rfl, hb⟩
      have HB2 := hid (HB1.out.trans (hb.mono HB1.out.size)); clear hb
      go_wp2_with fail
      refine (HCD.out 6 q b _ (by decide) (by decide) H64q.out H64b.out).mono ?_
      rw [F2.out]
      rintro e w3 ⟨rfl, hb⟩
      have HB3 := hid (HB2.out.trans (hb.mono HB2.out.size)); clear hb
      go_wp2_with fail
      refine (HCD.out 5 a m _ (by decide) (by decide) H64a.out H64m.out).mono ?_
      rw [F3.out]
      rintro e w4 ⟨rfl, hb⟩
      have HB4 := hid (HB3.out.trans (hb.mono HB3.out.size)); clear hb
      go_wp2_with fail
      all_goals (try (exfalso; omega))
      refine (HIS.out 4 m r a _ (by decide) (by decide) H64m.out H64r.out).mono ?_
      rw [F4.out]
      rintro e w5 ⟨rfl, hb⟩
      have HB5 := hid (HB4.out.trans (hb.mono HB4.out.size)); clear hb
      go_wp2
      go_ret
      exact ⟨rfl, HB5.out⟩
  · have er : (r == 0) = false := by simpa using (by omega : ¬ r = 0)
    have hr0 : ¬ r < 0 := by omega
    have dr : decide (r < 0) = false := decide_eq_false hr0
    have da : decide (a < 0) = false := decide_eq_false ha
    by_cases hn : b < 0
    · have q2 := w2 hn
      have hlt : r < -b := by omega
      clear d4 d5 w1 w2 hb0
      go_enter Try.func7, Try.ntmps7
      go_wp2_with fail
      refine (HAL.out _).mono ?_
      rintro e w1 ⟨rfl, hb⟩
      have HB1 := hid (HB0.out.trans (hb.mono HB0.out.size)); clear hb
      go_wp2_with fail
      refine (HCD.out 7 a b _ (by decide) (by decide) H64a.out H64b.out).mono ?_
      rw [F1.out]
      rintro e w2 ⟨rfl, hb⟩
      have HB2 := hid (HB1.out.trans (hb.mono HB1.out.size)); clear hb
      go_wp2_with fail
      refine (HCD.out 6 q b _ (by decide) (by decide) H64q.out H64b.out).mono ?_
      rw [F2.out]
      rintro e w3 ⟨rfl, hb⟩
      have HB3 := hid (HB2.out.trans (hb.mono HB2.out.size)); clear hb
      go_wp2_with fail
      refine (HCD.out 5 a m _ (by decide) (by decide) H64a.out H64m.out).mono ?_
      rw [F3.out]
      rintro e w4 ⟨rfl, hb⟩
      have HB4 := hid (HB3.out.trans (hb.mono HB3.out.size)); clear hb
      go_wp2_with fail
      all_goals (try (exfalso; omega))
      refine (HIS.out 4 m r a _ (by decide) (by decide) H64m.out H64r.out).mono ?_
      rw [F4.out]
      rintro e w5 ⟨rfl, hb⟩
      have HB5 := hid (HB4.out.trans (hb.mono HB4.out.size)); clear hb
      go_wp2
      go_ret
      exact ⟨rfl, HB5.out⟩
    · have hlt : r < b := by omega
      clear d4 d5 w1 w2 hb0
      go_enter Try.func7, Try.ntmps7
      go_wp2_with fail
      refine (HAL.out _).mono ?_
      rintro e w1 ⟨rfl, hb⟩
      have HB1 := hid (HB0.out.trans (hb.mono HB0.out.size)); clear hb
      go_wp2_with fail
      refine (HCD.out 7 a b _ (by decide) (by decide) H64a.out H64b.out).mono ?_
      rw [F1.out]
      rintro e w2 ⟨rfl, hb⟩
      have HB2 := hid (HB1.out.trans (hb.mono HB1.out.size)); clear hb
      go_wp2_with fail
      refine (HCD.out 6 q b _ (by decide) (by decide) H64q.out H64b.out).mono ?_
      rw [F2.out]
      rintro e w3 ⟨rfl, hb⟩
      have HB3 := hid (HB2.out.trans (hb.mono HB2.out.size)); clear hb
      go_wp2_with fail
      refine (HCD.out 5 a m _ (by decide) (by decide) H64a.out H64m.out).mono ?_
      rw [F3.out]
      rintro e w4 ⟨rfl, hb⟩
      have HB4 := hid (HB3.out.trans (hb.mono HB3.out.size)); clear hb
      go_wp2_with fail
      all_goals (try (exfalso; omega))
      refine (HIS.out 4 m r a _ (by decide) (by decide) H64m.out H64r.out).mono ?_
      rw [F4.out]
      rintro e w5 ⟨rfl, hb⟩
      have HB5 := hid (HB4.out.trans (hb.mono HB4.out.size)); clear hb
      go_wp2
      go_ret
      exact ⟨rfl, HB5.out⟩
end Go.Proofs.Ytdbljknpdhpmeaa.CaV
