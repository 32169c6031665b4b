/- Walks over the reference of calc (fescueref13). -/
import Derived.Test.YtdbljknpdhpmeaaCaRb
import Derived.Laws.BitsAllLaws
namespace Go.Proofs.Ytdbljknpdhpmeaa.CaR
open Go.RowKit Go.Lib SetP CaM CaK

theorem truth_calls (b : Bool) (w : World) : Calls Try.prog 26 #[.bool b] w fun e w' => e = .returned (.int .i64 (if b = true then 1 else 0)) ∧ w = w' := by
  cases b <;>
  · go_enter Try.func26, Try.ntmps26
    go_wp2
    go_ret
    exact ⟨rfl, rfl⟩
theorem u64_of (x : Int) : IntKind.u64.wrap x = x % 18446744073709551616 := by simp [IntKind.wrap, IntKind.bits, IntKind.signed]
theorem wr_u64 (x : Int) : wrap64 (IntKind.u64.wrap x) = wr x := by rw [wr_64, u64_of]; unfold wr; omega
theorem u64_neg {a : Int} (h : NumP.I64 a) (h0 : a < 0) : IntKind.u64.wrap (-IntKind.u64.wrap a) = -a := by rw [u64_of, u64_of]; unfold NumP.I64 at h; omega
theorem u64_pos {a : Int} (h : NumP.I64 a) (h0 : ¬ a < 0) : IntKind.u64.wrap a = a := by rw [u64_of]; unfold NumP.I64 at h; omega
theorem wr_neg (x : Int) : wrap64 (IntKind.u64.wrap (-IntKind.u64.wrap x)) = wr (-x) := by rw [wr_u64, u64_of]; unfold wr; omega
set_option maxHeartbeats 1000000 in
theorem quotient_calls (a b : Int) (w : World) (ha : NumP.I64 a) (hb : NumP.I64 b) (h0 : b ≠ 0) : Calls Try.prog 25 #[.int .i64 a, .int .i64 b] w fun e w' => e = .returned (.int .i64 (wr (a.tdiv b))) ∧ w = w' := by
  by_cases a0 : a < 0
  · have q1 := u64_neg ha a0
    by_cases b0 : b < 0
    · have q2 := u64_neg hb b0
      have q3 : ¬ -b = 0 := by omega
      have HQ : Hid (wrap64 (IntKind.u64.wrap (a.tdiv b)) = wr (a.tdiv b)) := wr_u64 _
      clear ha hb h0
      go_enter Try.func25, Try.ntmps25
      go_wp2
      all_goals first | (exfalso; omega) | (go_ret; exact ⟨by rw [← HQ.out]; rfl, rfl⟩)
    · have q2 := u64_pos hb b0
      have q3 : ¬ b = 0 := by omega
      have HQ : Hid (wrap64 (IntKind.u64.wrap (-IntKind.u64.wrap (-a.tdiv b))) = wr (a.tdiv b)) := by show _ = _; rw [wr_neg, Int.neg_neg]
      clear ha hb h0
      go_enter Try.func25, Try.ntmps25
      go_wp2
      all_goals first | (exfalso; omega) | (go_ret; exact ⟨by rw [← HQ.out]; rfl, rfl⟩)
  · have q1 := u64_pos ha a0
    by_cases b0 : b < 0
    · have q2 := u64_neg hb b0
      have q3 : ¬ -b = 0 := by omega
      have HQ : Hid (wrap64 (IntKind.u64.wrap (-IntKind.u64.wrap (-a.tdiv b))) = wr (a.tdiv b)) := by show _ = _; rw [wr_neg, Int.neg_neg]
      clear ha hb h0
      go_enter Try.func25, Try.ntmps25
      go_wp2
      all_goals first | (exfalso; omega) | (go_ret; exact ⟨by rw [← HQ.out]; rfl, rfl⟩)
    · have q2 := u64_pos hb b0
      have q3 : ¬ b = 0 := by omega
      have HQ : Hid (wrap64 (IntKind.u64.wrap (a.tdiv b)) = wr (a.tdiv b)) := wr_u64 _
      clear ha hb h0
      go_enter Try.func25, Try.ntmps25
      go_wp2
      all_goals first | (exfalso; omega) | (go_ret; exact ⟨by rw [← HQ.out]; rfl, rfl⟩)
theorem wr_mod4 (a b : Int) : wr (a % 18446744073709551616 + b % 18446744073709551616) = wr (a + b) := by unfold wr; omega
theorem wr_mod5 (a b : Int) : wr (a % 18446744073709551616 - b % 18446744073709551616) = wr (a - b) := by unfold wr; omega
theorem wr_mod6 (a b : Int) : wr (a % 18446744073709551616 * (b % 18446744073709551616)) = wr (a * b) := by
  have h1 : a % 18446744073709551616 = a + (-(a / 18446744073709551616)) * 18446744073709551616 := by omega
  have h2 : b % 18446744073709551616 = b + (-(b / 18446744073709551616)) * 18446744073709551616 := by omega
  rw [h1, h2]
  generalize -(a / 18446744073709551616) = k
  generalize -(b / 18446744073709551616) = j
  refine wr_of (k := k * b + a * j + k * j * 18446744073709551616) ?_
  rw [Int.add_mul, Int.mul_add, Int.mul_add, Int.add_mul, Int.add_mul]
  simp only [Int.mul_assoc, Int.mul_comm, Int.mul_left_comm]
  omega
set_option maxHeartbeats 1000000 in
theorem reckoned_calls (op a b : Int) (w : World) (ho : 4 ≤ op ∧ op ≤ 9) (ha : NumP.I64 a) (hb : NumP.I64 b) (h0 : op = 7 → b ≠ 0) : Calls Try.prog 22 #[.int .u8 op, .int .i64 a, .int .i64 b] w fun e w' => e = .returned (.int .i64 (calcO op a b)) ∧ w = w' := by
  have hop : op = 4 ∨ op = 5 ∨ op = 6 ∨ op = 7 ∨ op = 8 ∨ op = 9 := by omega
  rcases hop with rfl | rfl | rfl | rfl | rfl | rfl
  · have HQ : Hid (wrap64 (IntKind.u64.wrap (IntKind.u64.wrap a + IntKind.u64.wrap b)) = calcO 4 a b) := by show _ = wr (a + b); rw [wr_u64, u64_of, u64_of]; exact wr_mod4 a b
    clear ha hb h0 ho
    go_enter Try.func22, Try.ntmps22
    go_wp2
    go_ret
    exact ⟨by rw [← HQ.out]; rfl, rfl⟩
  · have HQ : Hid (wrap64 (IntKind.u64.wrap (IntKind.u64.wrap a - IntKind.u64.wrap b)) = calcO 5 a b) := by show _ = wr (a - b); rw [wr_u64, u64_of, u64_of]; exact wr_mod5 a b
    clear ha hb h0 ho
    go_enter Try.func22, Try.ntmps22
    go_wp2
    go_ret
    exact ⟨by rw [← HQ.out]; rfl, rfl⟩
  · have HQ : Hid (wrap64 (IntKind.u64.wrap (IntKind.u64.wrap a * IntKind.u64.wrap b)) = calcO 6 a b) := by show _ = wr (a * b); rw [wr_u64, u64_of, u64_of]; exact wr_mod6 a b
    clear ha hb h0 ho
    go_enter Try.func22, Try.ntmps22
    go_wp2
    go_ret
    exact ⟨by rw [← HQ.out]; rfl, rfl⟩
  · have HC := hid (quotient_calls a b w ha hb (h0 rfl))
    have HQ : Hid (wr (a.tdiv b) = calcO 7 a b) := rfl
    clear ha hb h0 ho
    generalize calcO 7 a b = z at *
    go_enter Try.func22, Try.ntmps22
    go_wp2_with fail
    refine HC.out.mono ?_
    rintro e w1 ⟨rfl, rfl⟩
    go_wp2
    go_ret
    exact ⟨by rw [← HQ.out]; rfl, rfl⟩
  · have HQ : Hid ((if decide (a < b) = true then (1 : Int) else 0) = calcO 8 a b) := by
      show _ = if a < b then (1 : Int) else 0
      by_cases h : a < b <;> simp [h]
    have HC := hid (fun b w => truth_calls b w)
    clear ha hb h0 ho
    generalize calcO 8 a b = z at *
    go_enter Try.func22, Try.ntmps22
    go_wp2_with fail
    refine (HC.out _ _).mono ?_
    rintro e w1 ⟨rfl, rfl⟩
    rw [HQ.out]
    go_wp2
    go_ret
    exact ⟨rfl, rfl⟩
  · have HQ : Hid ((if (a == b) = true then (1 : Int) else 0) = calcO 9 a b) := by
      show _ = if a = b then (1 : Int) else 0
      by_cases h : a = b <;> simp [h]
    have HC := hid (fun b w => truth_calls b w)
    clear ha hb h0 ho
    generalize calcO 9 a b = z at *
    go_enter Try.func22, Try.ntmps22
    go_wp2_with fail
    refine (HC.out _ _).mono ?_
    rintro e w1 ⟨rfl, rfl⟩
    rw [HQ.out]
    go_wp2
    go_ret
    exact ⟨rfl, rfl⟩
set_option maxHeartbeats 1000000 in
theorem do_calls (op a b : Int) (w : World) (ho : 0 ≤ op ∧ op ≤ 255) (ha : NumP.I64 a) (hb : NumP.I64 b) : Calls Try.prog 15 #[.int .u8 op, .int .i64 a, .int .i64 b] w fun e w' => e = .returned (.tuple #[.int .i64 (doO op a b).1, .int .i64 (doO op a b).2]) ∧ w = w' := by
  have HD : Hid (doO op a b = if op < 4 ∨ 9 < op then (0, 2) else if op = 7 ∧ b = 0 then (0, 130) else (calcO op a b, 0)) := rfl
  generalize doO op a b = d at *
  by_cases h1 : op < 4
  · rw [if_pos (.inl h1)] at HD
    rw [HD.out]
    clear HD ha hb
    go_enter Try.func15, Try.ntmps15
    go_wp2
    all_goals first | (exfalso; omega) | (go_ret2; exact ⟨rfl, rfl⟩)
  by_cases h2 : 9 < op
  · rw [if_pos (.inr h2)] at HD
    rw [HD.out]
    clear HD ha hb
    go_enter Try.func15, Try.ntmps15
    go_wp2
    all_goals first | (exfalso; omega) | (go_ret2; exact ⟨rfl, rfl⟩)
  rw [if_neg (by omega)] at HD
  by_cases h3 : op = 7 ∧ b = 0
  · rw [if_pos h3] at HD
    rw [HD.out]
    obtain ⟨rfl, rfl⟩ := h3
    clear HD ha hb
    go_enter Try.func15, Try.ntmps15
    go_wp2
    all_goals first | (exfalso; omega) | (go_ret2; exact ⟨rfl, rfl⟩)
  rw [if_neg h3] at HD
  rw [HD.out]
  have HC := hid (reckoned_calls op a b w (by omega) ha hb (fun e h => h3 ⟨e, h⟩))
  have e1 : (decide (op = 7) && decide (b = 0)) = false := by
    by_cases h : op = 7
    · have : b ≠ 0 := fun e => h3 ⟨h, e⟩
      simp [this]
    · simp [h]
  by_cases h7 : op = 7
  · have hb0 : (b == 0) = false := by simpa using fun e => h3 ⟨h7, e⟩
    subst h7
    clear HD ha hb h3 e1
    generalize calcO 7 a b = z at *
    go_enter Try.func15, Try.ntmps15
    go_wp2_with fail
    refine HC.out.mono ?_
    rintro e w1 ⟨rfl, rfl⟩
    go_wp2
    go_ret2
    exact ⟨rfl, rfl⟩
  · have h70 : (op == 7) = false := by simpa using h7
    clear HD ha hb h3 e1 h7
    generalize calcO op a b = z at *
    go_enter Try.func15, Try.ntmps15
    go_wp2_with fail
    all_goals (try (exfalso; omega))
    refine HC.out.mono ?_
    rintro e w1 ⟨rfl, rfl⟩
    go_wp2
    go_ret2
    exact ⟨rfl, rfl⟩
end Go.Proofs.Ytdbljknpdhpmeaa.CaR
