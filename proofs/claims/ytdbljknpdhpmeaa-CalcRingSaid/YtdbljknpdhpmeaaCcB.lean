/- Walks over the package calc itself: ask, Do, Check, First, Fits; the four contracts. -/
import Derived.Test.YtdbljknpdhpmeaaCcA
namespace Go.Proofs.Ytdbljknpdhpmeaa.CcB
open Go.RowKit Go.Lib SetP CaM CaK CaR NumP CcA

def askV (a b : Int) : Value := .agg #[.int .i64 a, .int .i64 b]
set_option maxHeartbeats 1000000 in
theorem ask_calls (op a b : Int) (w : World) (h0 : 0 ≤ op) (h1 : op ≤ 255) (_ : I64 a) (_ : I64 b) : Calls Try.prog 19 #[.int .u8 op, askV a b] w (DoR (doO op a b).1 (doO op a b).2 w) := by
  have HB := hid (alloc_below w (.cells #[.int .i64 a, .int .i64 b] 42))
  have l0 : (w.alloc (.cells #[.int .i64 a, .int .i64 b] 42)).cell? ⟨w.heap.size, 0, none⟩ = some (.int .i64 a) := by simp
  have l1 : (w.alloc (.cells #[.int .i64 a, .int .i64 b] 42)).cell? ⟨w.heap.size, 1, none⟩ = some (.int .i64 b) := by simp
  obtain ⟨W, hW⟩ : ∃ W, W = w.alloc (.cells #[.int .i64 a, .int .i64 b] 42) := ⟨_, rfl⟩
  rw [← hW] at l0 l1 HB
  have HW := hid hW
  clear hW
  have hc : op = 4 ∨ op = 5 ∨ op = 6 ∨ op = 7 ∨ op = 8 ∨ op = 9 ∨ (op < 4 ∨ 9 < op) := by omega
  have HT := hid (fun b w => truth_calls b w)
  unfold askV
  rcases hc with rfl | rfl | rfl | rfl | rfl | rfl | hc
  · have HQ : Hid (wrap64 (a + b) = calcO 4 a b) := wr_64 _
    rw [show doO 4 a b = (calcO 4 a b, 0) from rfl]
    clear h0 h1 HT
    go_enter Try.func19, Try.ntmps19
    go_upto_region 1 with fail
    rw [← HW.out]
    go_wp2
    go_ret2
    exact ⟨by rw [← HQ.out]; rfl, HB.out⟩
  · have HQ : Hid (wrap64 (a - b) = calcO 5 a b) := wr_64 _
    rw [show doO 5 a b = (calcO 5 a b, 0) from rfl]
    clear h0 h1 HT
    go_enter Try.func19, Try.ntmps19
    go_upto_region 1 with fail
    rw [← HW.out]
    go_wp2
    go_ret2
    exact ⟨by rw [← HQ.out]; rfl, HB.out⟩
  · have HQ : Hid (wrap64 (a * b) = calcO 6 a b) := wr_64 _
    rw [show doO 6 a b = (calcO 6 a b, 0) from rfl]
    clear h0 h1 HT
    go_enter Try.func19, Try.ntmps19
    go_upto_region 1 with fail
    rw [← HW.out]
    go_wp2
    go_ret2
    exact ⟨by rw [← HQ.out]; rfl, HB.out⟩
  · by_cases hz : b = 0
    · subst hz
      rw [show doO 7 a 0 = (0, 130) from rfl]
      clear h0 h1 HT
      go_enter Try.func19, Try.ntmps19
      go_upto_region 1 with fail
      rw [← HW.out]
      go_wp2
      go_ret2
      exact ⟨rfl, HB.out⟩
    · have HQ : Hid (wrap64 (a.tdiv b) = calcO 7 a b) := wr_64 _
      have hzb : (b == 0) = false := by simpa using hz
      rw [show doO 7 a b = (calcO 7 a b, 0) from (if_neg (by omega)).trans (if_neg (by omega))]
      clear h0 h1 HT
      go_enter Try.func19, Try.ntmps19
      go_upto_region 1 with fail
      rw [← HW.out]
      go_wp2
      go_ret2
      exact ⟨by rw [← HQ.out]; rfl, HB.out⟩
  · have HQ : Hid ((if decide (a < b) = true then (1 : Int) else 0) = calcO 8 a b) := by
      show _ = if a < b then (1 : Int) else 0
      by_cases h : a < b <;> simp [h]
    rw [show doO 8 a b = (calcO 8 a b, 0) from rfl]
    clear h0 h1
    generalize calcO 8 a b = z at *
    go_enter Try.func19, Try.ntmps19
    go_upto_region 1 with fail
    rw [← HW.out]
    go_wp2_with fail
    refine (HT.out _ _).mono ?_
    rintro e w1 ⟨rfl, rfl⟩
    rw [HQ.out]
    go_wp2
    go_ret2
    exact ⟨rfl, HB.out⟩
  · have HQ : Hid ((if (a == b) = true then (1 : Int) else 0) = calcO 9 a b) := by
      show _ = if a = b then (1 : Int) else 0
      by_cases h : a = b <;> simp [h]
    rw [show doO 9 a b = (calcO 9 a b, 0) from rfl]
    clear h0 h1
    generalize calcO 9 a b = z at *
    go_enter Try.func19, Try.ntmps19
    go_upto_region 1 with fail
    rw [← HW.out]
    go_wp2_with fail
    refine (HT.out _ _).mono ?_
    rintro e w1 ⟨rfl, rfl⟩
    rw [HQ.out]
    go_wp2
    go_ret2
    exact ⟨rfl, HB.out⟩
  · rw [show doO op a b = (0, 2) from if_pos hc]
    have b1 : ¬ op = 4 := by omega
    have b2 : ¬ op = 5 := by omega
    have b3 : ¬ op = 6 := by omega
    have b4 : ¬ op = 7 := by omega
    have b5 : ¬ op = 8 := by omega
    have b6 : ¬ op = 9 := by omega
    clear hc HT
    go_enter Try.func19, Try.ntmps19
    go_upto_region 1 with fail
    rw [← HW.out]
    go_wp2
    all_goals first | (exfalso; omega) | (go_ret2; exact ⟨rfl, HB.out⟩)
theorem do_calls (op a b : Int) (w : World) (h0 : 0 ≤ op) (h1 : op ≤ 255) (ha : I64 a) (hb : I64 b) : Calls Try.prog 9 #[.int .u8 op, .int .i64 a, .int .i64 b] w (DoR (doO op a b).1 (doO op a b).2 w) := by
  have HC := hid (ask_calls op a b w h0 h1 ha hb)
  generalize doO op a b = z at *
  obtain ⟨z1, z2⟩ := z
  unfold askV at HC
  clear ha hb
  go_enter Try.func9, Try.ntmps9
  go_wp2_with fail
  refine HC.out.mono ?_
  rintro e w1 ⟨rfl, hb1⟩
  have HE := hid hb1
  clear hb1
  go_wp2
  go_ret2
  exact ⟨rfl, HE.out⟩
theorem do_c : DoC := fun op a b w h0 h1 ha hb => do_calls op a b w h0 h1 ha hb
set_option maxHeartbeats 1000000 in
theorem check_calls (x : Vx) (w : World) (hx : VxOk x) : Calls Try.prog 11 #[valV x] w (ErrR (chkV x) w) := by
  have hb := alloc_below w (.cells #[.int .u8 x.kind, .int .i64 x.n, .int .i64 x.block, .int .i64 x.at_] 26)
  have HC := hid (may_calls x (w.alloc (.cells #[.int .u8 x.kind, .int .i64 x.n, .int .i64 x.block, .int .i64 x.at_] 26)) hx)
  have HB := hid hb
  have HK : Hid (chkV x = if mayV x = true then 0 else 8) := rfl
  clear hb hx
  generalize chkV x = r at *
  unfold valV at *
  generalize mayV x = m at *
  cases m with
  | true =>
    rw [if_pos rfl] at HK
    rw [HK.out]
    go_enter Try.func11, Try.ntmps11
    go_wp2_with fail
    refine HC.out.mono ?_
    rintro e w1 ⟨rfl, hb1⟩
    have HE := hid (HB.out.trans (hb1.mono HB.out.size))
    clear hb1 HC
    go_wp2
    go_ret
    exact ⟨rfl, HE.out⟩
  | false =>
    rw [if_neg (by decide)] at HK
    rw [HK.out]
    go_enter Try.func11, Try.ntmps11
    go_wp2_with fail
    refine HC.out.mono ?_
    rintro e w1 ⟨rfl, hb1⟩
    have HE := hid (HB.out.trans (hb1.mono HB.out.size))
    clear hb1 HC
    go_wp2
    go_ret
    exact ⟨rfl, HE.out⟩
theorem check_c : ChkVC := fun x w hx => check_calls x w hx
set_option maxHeartbeats 1000000 in
theorem first_calls (k : Int) (w : World) (h0 : 0 ≤ k) (h1 : k ≤ 255) : Calls Try.prog 10 #[.int .u8 k] w (ValE (firstV k) (firstE k) w) := by
  have HC := hid (fun w => valued_calls k w h0 h1)
  rw [show firstV k = ⟨kindV k, 0, 0, 0⟩ from by unfold firstV kindV; by_cases h : 1 ≤ k ∧ k ≤ 3 <;> simp [h]]
  generalize kindV k = kk at *
  generalize firstE k = r at *
  go_enter Try.func10, Try.ntmps10
  go_wp2_with fail
  refine (HC.out _).mono ?_
  rintro e w1 ⟨rfl, rfl⟩
  go_wp2
  exact bodyPost_ret (v := .tuple #[.agg #[.int .u8 kk, .int .i64 0, .int .i64 0, .int .i64 0], .int .i64 r]) (by rw [results_cell_tmp rfl]; go_simp) rfl ⟨rfl, alloc_below _ _⟩
theorem first_c : FirstC := fun k w h0 h1 => first_calls k w h0 h1
set_option maxHeartbeats 1000000 in
theorem fits_calls (x : Vx) (k : Int) (w : World) (hx : VxOk x) (h0 : 0 ≤ k) (h1 : k ≤ 255) : Calls Try.prog 14 #[valV x, .int .u8 k] w (TestR (fitsV x k) w) := by
  have hb := alloc_below w (.cells #[.int .u8 x.kind, .int .i64 x.n, .int .i64 x.block, .int .i64 x.at_] 26)
  have HV := hid (fun w => valued_calls k w h0 h1)
  have HC := hid (fun w => may_calls x w hx)
  have HB := hid hb
  have l0 : (w.alloc (.cells #[.int .u8 x.kind, .int .i64 x.n, .int .i64 x.block, .int .i64 x.at_] 26)).cell? ⟨w.heap.size, 0, none⟩ = some (.int .u8 x.kind) := by simp
  have HM : Hid (mayV x = true → 1 ≤ x.kind ∧ x.kind ≤ 3) := by
    show _ → _
    intro h
    unfold mayV at h
    by_cases h1 : x.kind = 1
    · omega
    · by_cases h2 : x.kind = 2
      · omega
      · by_cases h3 : x.kind = 3
        · omega
        · simp [h1, h2, h3] at h
  have HK : Hid (fitsV x k = ((firstE k == 0) && ((x.kind == kindV k) && mayV x))) := by
    show _ = _
    have hm := HM.out
    unfold fitsV firstE kindV
    cases hv : mayV x with
    | false => simp
    | true =>
      have := hm hv
      by_cases hk : 1 ≤ k ∧ k ≤ 3
      · simp [hk]
        by_cases h : x.kind = k <;> simp [h]
      · have : ¬ x.kind = k := by omega
        simp [hk, this]
  clear hb hx HM
  generalize fitsV x k = r at *
  unfold valV at *
  generalize mayV x = m at *
  generalize kindV k = kk at *
  generalize firstE k = er at *
  have HK2 := HK
  generalize hq : (er == 0) = q at HK2
  generalize hs : (x.kind == kk) = s at HK2
  cases q with
  | false =>
    rw [Bool.false_and] at HK2
    rw [HK2.out]
    clear HK HC HK2
    go_enter Try.func14, Try.ntmps14
    go_wp2_with fail
    refine (HV.out _).mono ?_
    rintro e w1 ⟨rfl, rfl⟩
    clear HV
    go_wp2
    go_ret
    exact ⟨rfl, HB.out⟩
  | true =>
    rw [Bool.true_and] at HK2
    cases s with
    | false =>
      rw [Bool.false_and] at HK2
      rw [HK2.out]
      clear HK HC HK2
      go_enter Try.func14, Try.ntmps14
      go_wp2_with fail
      refine (HV.out _).mono ?_
      rintro e w1 ⟨rfl, rfl⟩
      clear HV
      go_wp2
      go_ret
      exact ⟨rfl, HB.out⟩
    | true =>
      rw [Bool.true_and] at HK2
      rw [HK2.out]
      clear HK HK2
      go_enter Try.func14, Try.ntmps14
      go_wp2_with fail
      refine (HV.out _).mono ?_
      rintro e w1 ⟨rfl, rfl⟩
      clear HV
      go_wp2_with fail
      refine (HC.out _).mono ?_
      rintro e w1 ⟨rfl, hb1⟩
      have HE := hid (HB.out.trans (hb1.mono HB.out.size))
      clear hb1 HC HB
      go_wp2
      go_ret
      exact ⟨rfl, HE.out⟩
theorem fits_c : FitsC := fun x k w hx h0 h1 => fits_calls x k w hx h0 h1
end Go.Proofs.Ytdbljknpdhpmeaa.CcB
