/- Walks over fescueref13.Check, Fits, First. -/
import Derived.Test.YtdbljknpdhpmeaaCaW
namespace Go.Proofs.Ytdbljknpdhpmeaa.CaX
open Go.RowKit Go.Lib SetP CaM CaK CaR CaW NumP

set_option maxHeartbeats 1000000 in
theorem check_calls (x : Vx) (w : World) (hx : VxOk x) : Calls Try.prog 17 #[valV x] w (ErrR (chkV x) w) := by
  have hb := alloc_below w (.cells #[.int .u8 x.kind, .int .i64 x.n, .int .i64 x.block, .int .i64 x.at_] 26)
  have HC := hid (may_calls x (w.alloc (.cells #[.int .u8 x.kind, .int .i64 x.n, .int .i64 x.block, .int .i64 x.at_] 26)) hx)
  have HB := hid hb
  have HK : Hid (chkV x = if mayV x = true then 0 else 8) := rfl
  clear hb hx
  generalize chkV x = r at *
  unfold valV at *
  generalize mayV x = m at *
  cases m with
  | true =>
    rw [if_pos rfl] at HK
    rw [HK.out]
    go_enter Try.func17, Try.ntmps17
    go_wp2_with fail
    refine HC.out.mono ?_
    rintro e w1 ⟨rfl, hb1⟩
    have HE := hid (HB.out.trans (hb1.mono HB.out.size))
    clear hb1 HC
    go_wp2
    go_ret
    exact ⟨rfl, HE.out⟩
  | false =>
    rw [if_neg (by decide)] at HK
    rw [HK.out]
    go_enter Try.func17, Try.ntmps17
    go_wp2_with fail
    refine HC.out.mono ?_
    rintro e w1 ⟨rfl, hb1⟩
    have HE := hid (HB.out.trans (hb1.mono HB.out.size))
    clear hb1 HC
    go_wp2
    go_ret
    exact ⟨rfl, HE.out⟩
set_option maxHeartbeats 1000000 in
theorem fits_calls (x : Vx) (k : Int) (w : World) (hx : VxOk x) : Calls Try.prog 18 #[valV x, .int .u8 k] w (TestR (fitsV x k) w) := by
  have hb := alloc_below w (.cells #[.int .u8 x.kind, .int .i64 x.n, .int .i64 x.block, .int .i64 x.at_] 26)
  have HC := hid (may_calls x (w.alloc (.cells #[.int .u8 x.kind, .int .i64 x.n, .int .i64 x.block, .int .i64 x.at_] 26)) hx)
  have HB := hid hb
  have HK : Hid (fitsV x k = (mayV x && (x.kind == k))) := by
    show _ = _
    unfold fitsV
    by_cases h : x.kind = k <;> simp [h]
  have HL := hid (fun w' (h : Below (w.alloc (.cells #[.int .u8 x.kind, .int .i64 x.n, .int .i64 x.block, .int .i64 x.at_] 26)).heap.size (w.alloc (.cells #[.int .u8 x.kind, .int .i64 x.n, .int .i64 x.block, .int .i64 x.at_] 26)) w') => show w'.cell? ⟨w.heap.size, 0, none⟩ = some (.int .u8 x.kind) from (h.cell (p := ⟨w.heap.size, 0, none⟩) (by simp)).trans (by simp))
  clear hb hx
  generalize fitsV x k = r at *
  unfold valV at *
  generalize mayV x = m at *
  generalize hkk : (x.kind == k) = b at *
  cases m with
  | true =>
    rw [Bool.true_and] at HK
    rw [HK.out]
    go_enter Try.func18, Try.ntmps18
    go_wp2_with fail
    refine HC.out.mono ?_
    rintro e w1 ⟨rfl, hb1⟩
    have HE := hid (HB.out.trans (hb1.mono HB.out.size))
    have l0 := HL.out w1 hb1
    clear hb1 HC
    go_wp2
    go_ret
    exact ⟨rfl, HE.out⟩
  | false =>
    rw [Bool.false_and] at HK
    rw [HK.out]
    go_enter Try.func18, Try.ntmps18
    go_wp2_with fail
    refine HC.out.mono ?_
    rintro e w1 ⟨rfl, hb1⟩
    have HE := hid (HB.out.trans (hb1.mono HB.out.size))
    clear hb1 HC
    go_wp2
    go_ret
    exact ⟨rfl, HE.out⟩
set_option maxHeartbeats 1000000 in
theorem first_calls (k : Int) (w : World) (h0 : 0 ≤ k) (h1 : k ≤ 255) : Calls Try.prog 16 #[.int .u8 k] w (ValE (firstV k) (firstE k) w) := by
  have HV : Hid (firstV k = if 1 ≤ k ∧ k ≤ 3 then ⟨k, 0, 0, 0⟩ else ⟨0, 0, 0, 0⟩) := rfl
  have HE : Hid (firstE k = if 1 ≤ k ∧ k ≤ 3 then 0 else 2) := rfl
  generalize firstV k = v at *
  generalize firstE k = r at *
  by_cases hk : 1 ≤ k ∧ k ≤ 3
  · rw [if_pos hk] at HV HE
    rw [HV.out, HE.out]
    clear HV HE
    go_enter Try.func16, Try.ntmps16
    go_wp2
    all_goals first | (exfalso; omega) | exact bodyPost_ret (v := .tuple #[.agg #[.int .u8 k, .int .i64 0, .int .i64 0, .int .i64 0], .int .i64 0]) (by rw [results_cell_tmp rfl]; go_simp) rfl ⟨rfl, alloc_below _ _⟩
  · rw [if_neg hk] at HV HE
    rw [HV.out, HE.out]
    clear HV HE
    by_cases hk1 : k < 1
    · go_enter Try.func16, Try.ntmps16
      go_wp2
      all_goals first | (exfalso; omega) | exact bodyPost_ret (v := .tuple #[.agg #[.int .u8 0, .int .i64 0, .int .i64 0, .int .i64 0], .int .i64 2]) (by rw [results_cell_tmp rfl]; go_simp) rfl ⟨rfl, alloc_below _ _⟩
    · have hk3 : 3 < k := by omega
      go_enter Try.func16, Try.ntmps16
      go_wp2
      all_goals first | (exfalso; omega) | exact bodyPost_ret (v := .tuple #[.agg #[.int .u8 0, .int .i64 0, .int .i64 0, .int .i64 0], .int .i64 2]) (by rw [results_cell_tmp rfl]; go_simp) rfl ⟨rfl, alloc_below _ _⟩
end Go.Proofs.Ytdbljknpdhpmeaa.CaX
