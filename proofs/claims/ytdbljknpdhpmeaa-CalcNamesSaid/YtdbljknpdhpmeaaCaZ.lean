/- Walk over fescuelaw13.CalcNames. -/
import Derived.Test.YtdbljknpdhpmeaaCaY
namespace Go.Proofs.Ytdbljknpdhpmeaa.CaZ
open Go.RowKit Go.Lib SetP CaM CaK CaR CaS CaT CaY NumP

instance decOk (x : Vx) : Decidable (VxOk x) := by unfold VxOk I64; infer_instance
theorem chk_of (CC : ChkVC) (k n c t : Int) (w : World) (h : VxOk ⟨k, n, c, t⟩) : Calls Try.prog 11 #[.agg #[.int .u8 k, .int .i64 n, .int .i64 c, .int .i64 t]] w (ErrR (chkV ⟨k, n, c, t⟩) w) := CC ⟨k, n, c, t⟩ w h
theorem fits_of (CT : FitsC) (k n c t q : Int) (w : World) (h : VxOk ⟨k, n, c, t⟩) (h0 : 0 ≤ q) (h1 : q ≤ 255) : Calls Try.prog 14 #[.agg #[.int .u8 k, .int .i64 n, .int .i64 c, .int .i64 t], .int .u8 q] w (TestR (fitsV ⟨k, n, c, t⟩ q) w) := CT ⟨k, n, c, t⟩ q w h h0 h1
def ValX (v : Vx) (er : Int) (w : World) (e : Ending) (w' : World) : Prop := e = .returned (.tuple #[.agg #[.int .u8 v.kind, .int .i64 v.n, .int .i64 v.block, .int .i64 v.at_], .int .i64 er]) ∧ Below w.heap.size w w'
theorem first_of (CF : FirstC) (k : Int) (w : World) (h0 : 0 ≤ k) (h1 : k ≤ 255) : Calls Try.prog 10 #[.int .u8 k] w (ValX (firstV k) (firstE k) w) := CF k w h0 h1
theorem g1 : doO 7 1 0 = (0, 130) := by decide +kernel
theorem g2 : doO 10 1 1 = (0, 2) := by decide +kernel
theorem g3 : firstV 2 = ⟨2, 0, 0, 0⟩ := by decide +kernel
theorem g4 : firstE 2 = 0 := by decide +kernel
theorem g5 : firstV 4 = ⟨0, 0, 0, 0⟩ := by decide +kernel
theorem g6 : firstE 4 = 2 := by decide +kernel
theorem g7 : chkV ⟨0, 0, 0, 0⟩ = 8 := by decide +kernel
theorem g8 : chkV ⟨2, 0, 0, 1⟩ = 8 := by decide +kernel
theorem g9 : chkV ⟨3, 9, 0, 0⟩ = 8 := by decide +kernel
theorem g10 : chkV ⟨1, 0, 1, 0⟩ = 8 := by decide +kernel
theorem g11 : isB 7 (-9223372036854775808) (-1) (-9223372036854775808) = true := by decide +kernel
theorem g12 : isB 5 (-9223372036854775808) 1 9223372036854775807 = true := by decide +kernel
theorem g13 : isB 9 5 5 1 = true := by decide +kernel
theorem g14 : isB 9 5 6 0 = true := by decide +kernel
theorem g15 : fitsV ⟨2, 0, 3, 1⟩ 2 = true := by decide +kernel
theorem g16 : fitsV ⟨1, 0, 0, 0⟩ 3 = false := by decide +kernel

set_option maxRecDepth 100000 in
set_option maxHeartbeats 8000000 in
theorem calcNames_of (CD : DoC) (CC : ChkVC) (CF : FirstC) (CT : FitsC) (W : World) : Calls Try.prog 3 #[] W (fun e W' => e = .returned (.bool true) ∧ Below W.heap.size W W') := by
  have HAL := hid (fun w => alive_of CD w)
  have HCD := hid CD
  have HIS := hid (fun op a b want wx h0 h1 ha hb => is_of CD op a b want wx h0 h1 ha hb)
  have HCC := hid (fun k n c t wx h => chk_of CC k n c t wx h)
  have HCF := hid (fun k wx h0 h1 => first_of CF k wx h0 h1)
  have HCT := hid (fun k n c t q wx h h0 h1 => fits_of CT k n c t q wx h h0 h1)
  have HB0 := hid (Below.refl W.heap.size W)
  clear CD CC CF CT
  go_enter Try.func3, Try.ntmps3
  go_wp2_with fail
  refine (HCD.out 7 1 0 _ (by decide) (by decide) ⟨by decide, by decide⟩ ⟨by decide, by decide⟩).mono ?_
  rw [g1]
  rintro e w1 ⟨rfl, hb⟩
  have HB1 := hid (HB0.out.trans (hb.mono HB0.out.size))
  clear hb
  go_wp2_with fail
  refine (HCD.out 10 1 1 _ (by decide) (by decide) ⟨by decide, by decide⟩ ⟨by decide, by decide⟩).mono ?_
  rw [g2]
  rintro e w2 ⟨rfl, hb⟩
  have HB2 := hid (HB1.out.trans (hb.mono HB1.out.size))
  clear hb
  go_wp2_with fail
  refine (HCF.out 2 _ (by decide) (by decide)).mono ?_
  rw [g3, g4]
  rintro e w3 ⟨rfl, hb⟩
  simp only
  have HB3 := hid (HB2.out.trans (hb.mono HB2.out.size))
  clear hb
  have hba := alloc_below w3 (.cells #[.int .u8 2, .int .i64 0, .int .i64 0, .int .i64 0] 26)
  obtain ⟨V, hV⟩ : ∃ V, V = w3.alloc (.cells #[.int .u8 2, .int .i64 0, .int .i64 0, .int .i64 0] 26) := ⟨_, rfl⟩
  have hv0 : Bel (w3.alloc (.cells #[.int .u8 2, .int .i64 0, .int .i64 0, .int .i64 0] 26)) V := by rw [hV]; exact Bel.refl _
  rw [← hV] at hba
  have HV0 := hid (fun w' (h : Bel V w') => val_at w3 ⟨2, 0, 0, 0⟩ (hv0.go h))
  have l0 := fun w' (h : Bel V w') => (HV0.out w' h).1
  have l1 := fun w' (h : Bel V w') => (HV0.out w' h).2.1
  have l2 := fun w' (h : Bel V w') => (HV0.out w' h).2.2.1
  have l3 := fun w' (h : Bel V w') => (HV0.out w' h).2.2.2
  simp only at l0 l1 l2 l3
  have HV := hid hV
  have hb := hba
  clear hv0 HV0 hV hba
  go_upto_region 4 with fail
  rw [← HV.out]
  have af3 := Bel.refl V
  have HBV := hid (HB3.out.trans (hb.mono HB3.out.size))
  clear hb HV HB3
  have HB3 := HBV
  clear HBV
  go_wp2_with fail
  refine (HCF.out 4 _ (by decide) (by decide)).mono ?_
  rw [g5, g6]
  rintro e w4 ⟨rfl, hb⟩
  simp only
  have HB4 := hid (HB3.out.trans (hb.mono HB3.out.size))
  have af4 := af3.go hb
  clear hb
  have hb := alloc_below w4 (.cells #[.int .u8 0, .int .i64 0, .int .i64 0, .int .i64 0] 26)
  obtain ⟨V2, hV2⟩ : ∃ V2, V2 = w4.alloc (.cells #[.int .u8 0, .int .i64 0, .int .i64 0, .int .i64 0] 26) := ⟨_, rfl⟩
  rw [← hV2] at hb
  have HV2 := hid hV2
  clear hV2
  go_upto_region 5 with fail
  rw [← HV2.out]
  have HB5 := hid (HB4.out.trans (hb.mono HB4.out.size))
  have af5 := af4.go hb
  clear hb
  clear HV2
  go_wp2_with fail
  refine (HCC.out 0 0 0 0 _ ⟨by decide, by decide, by decide, by decide⟩).mono ?_
  rw [g7]
  rintro e w6 ⟨rfl, hb⟩
  have HB6 := hid (HB5.out.trans (hb.mono HB5.out.size))
  have af6 := af5.go hb
  clear hb
  go_wp2_with fail
  refine (HCC.out 2 0 0 1 _ ⟨by decide, by decide, by decide, by decide⟩).mono ?_
  rw [g8]
  rintro e w7 ⟨rfl, hb⟩
  have HB7 := hid (HB6.out.trans (hb.mono HB6.out.size))
  have af7 := af6.go hb
  clear hb
  go_wp2_with fail
  refine (HCC.out 3 9 0 0 _ ⟨by decide, by decide, by decide, by decide⟩).mono ?_
  rw [g9]
  rintro e w8 ⟨rfl, hb⟩
  have HB8 := hid (HB7.out.trans (hb.mono HB7.out.size))
  have af8 := af7.go hb
  clear hb
  go_wp2_with fail
  refine (HCC.out 1 0 1 0 _ ⟨by decide, by decide, by decide, by decide⟩).mono ?_
  rw [g10]
  rintro e w9 ⟨rfl, hb⟩
  have HB9 := hid (HB8.out.trans (hb.mono HB8.out.size))
  have af9 := af8.go hb
  clear hb
  go_wp2_with fail
  refine (HAL.out _).mono ?_
  rintro e w10 ⟨rfl, hb⟩
  have HB10 := hid (HB9.out.trans (hb.mono HB9.out.size))
  have af10 := af9.go hb
  clear hb
  go_wp2_with fail
  refine (HIS.out 7 (-9223372036854775808) (-1) (-9223372036854775808) _ (by decide) (by decide) ⟨by decide, by decide⟩ ⟨by decide, by decide⟩).mono ?_
  rw [g11]
  rintro e w11 ⟨rfl, hb⟩
  have HB11 := hid (HB10.out.trans (hb.mono HB10.out.size))
  have af11 := af10.go hb
  clear hb
  go_wp2_with fail
  refine (HIS.out 5 (-9223372036854775808) 1 9223372036854775807 _ (by decide) (by decide) ⟨by decide, by decide⟩ ⟨by decide, by decide⟩).mono ?_
  rw [g12]
  rintro e w12 ⟨rfl, hb⟩
  have HB12 := hid (HB11.out.trans (hb.mono HB11.out.size))
  have af12 := af11.go hb
  clear hb
  go_wp2_with fail
  refine (HIS.out 9 5 5 1 _ (by decide) (by decide) ⟨by decide, by decide⟩ ⟨by decide, by decide⟩).mono ?_
  rw [g13]
  rintro e w13 ⟨rfl, hb⟩
  have HB13 := hid (HB12.out.trans (hb.mono HB12.out.size))
  have af13 := af12.go hb
  clear hb
  go_wp2_with fail
  refine (HIS.out 9 5 6 0 _ (by decide) (by decide) ⟨by decide, by decide⟩ ⟨by decide, by decide⟩).mono ?_
  rw [g14]
  rintro e w14 ⟨rfl, hb⟩
  have HB14 := hid (HB13.out.trans (hb.mono HB13.out.size))
  have af14 := af13.go hb
  clear hb
  have hq := eql_va 2 0 0 0 2 0 0 0
  simp only [beq_self_eq_true, Bool.and_self] at hq
  go_wp2_with fail
  refine (HCT.out 2 0 3 1 2 _ ⟨by decide, by decide, by decide, by decide⟩ (by decide) (by decide)).mono ?_
  rw [g15]
  rintro e w15 ⟨rfl, hb⟩
  have HB15 := hid (HB14.out.trans (hb.mono HB14.out.size))
  have af15 := af14.go hb
  clear hb
  go_wp2_with fail
  refine (HCT.out 1 0 0 0 3 _ ⟨by decide, by decide, by decide, by decide⟩ (by decide) (by decide)).mono ?_
  rw [g16]
  rintro e w16 ⟨rfl, hb⟩
  have HB16 := hid (HB15.out.trans (hb.mono HB15.out.size))
  have af16 := af15.go hb
  clear hb
  go_wp2
  go_ret
  exact ⟨rfl, HB16.out⟩
end Go.Proofs.Ytdbljknpdhpmeaa.CaZ
