/- Walk over fescuelaw04.FlatNames. -/
import Derived.Test.YtindpgejnaofkaaFlLA
namespace Go.Proofs.Ytindpgejnaofkaa.FlLN
open Go.RowKit Go.Lib Go.Shelf SetP IntO TyM TyP TyB TyC TyD TyE TyS TyF TyH TyK TyQ TyW TyRE TyLA FlM FlQ FlW FlX FlF FlG FlLA

theorem nameA : flatE chapF 3 4 = 2 ∧ flatC chapF 3 4 = 0 ∧ flatE chapF 0 (-1) = 2 ∧ flatC chapF 0 (-1) = 0 ∧ askT chapF 5 = 2 ∧ flatT chapF 5 = [] ∧ partE chapF 0 0 = 2 ∧ stepTy chapF 0 0 = 0 ∧ partE chapF 3 1 = 0 ∧ stepTy chapF 3 1 = 0 ∧ flatE chapF 4 4 = 0 ∧ flatC chapF 4 4 = 2 := by decide +kernel

set_option maxHeartbeats 2000000 in
theorem walk (W : World) : Calls Try.prog 3 #[] W fun e W' => e = .returned (.bool true) ∧ Below W.heap.size W W' := by
  obtain ⟨q1, q2, q3, q4, q5, q6, q7, q8, q9, q10, q11, q12⟩ := nameA
  have HCH := hid chapter_calls
  have HAL := hid alive_calls
  have H1 := hid (fun v wx (h : TysAt wx v chapF) => flat_calls chapF v 3 4 wx h)
  have H2 := hid (fun v wx (h : TysAt wx v chapF) => flat_calls chapF v 0 (-1) wx h)
  have H3 := hid (fun v wx (h : TysAt wx v chapF) => fields_calls chapF v 5 wx h)
  have H4 := hid (fun v wx (h : TysAt wx v chapF) => step_calls chapF v 0 0 wx h)
  have H5 := hid (fun v wx (h : TysAt wx v chapF) => step_calls chapF v 3 1 wx h)
  have H6 := hid (fun v wx (h : TysAt wx v chapF) => flat_calls chapF v 4 4 wx h)
  rw [q1, q2] at H1
  rw [q3, q4] at H2
  rw [q5, q6] at H3
  rw [q7, q8] at H4
  rw [q9, q10] at H5
  rw [q11, q12] at H6
  clear q1 q2 q3 q4 q5 q6 q7 q8 q9 q10 q11 q12
  go_enter Try.func3, Try.ntmps3
  have hbe := Below.refl W.heap.size W
  go_wp2_with fail
  refine (HCH.out _).mono ?_
  rintro e wa1 ⟨v, rfl, h, hb⟩
  have hbe1 := hbe.trans (hb.mono hbe.size)
  have HC := hid (H1.out v wa1 h)
  clear h hb hbe H1
  have hbe := hbe1
  clear hbe1
  go_wp2_with fail
  refine HC.out.mono ?_
  rintro e wb1 ⟨rfl, hb⟩
  have hbf := hbe.trans (hb.mono hbe.size)
  clear hb hbe HC
  have hbe := hbf
  clear hbf
  go_wp2_with fail
  refine (HCH.out _).mono ?_
  rintro e wa2 ⟨v, rfl, h, hb⟩
  have hbe2 := hbe.trans (hb.mono hbe.size)
  have HC := hid (H2.out v wa2 h)
  clear h hb hbe H2
  have hbe := hbe2
  clear hbe2
  go_wp2_with fail
  refine HC.out.mono ?_
  rintro e wb2 ⟨rfl, hb⟩
  have hbf := hbe.trans (hb.mono hbe.size)
  clear hb hbe HC
  have hbe := hbf
  clear hbf
  go_wp2_with fail
  refine (HCH.out _).mono ?_
  rintro e wa3 ⟨v, rfl, h, hb⟩
  have hbe3 := hbe.trans (hb.mono hbe.size)
  have HC := hid (H3.out v wa3 h)
  clear h hb hbe H3
  have hbe := hbe3
  clear hbe3
  go_wp2_with fail
  refine HC.out.mono ?_
  rintro e wb3 ⟨u, m, rfl, hu, hb⟩
  obtain ⟨ua, uc, rfl⟩ := own_slice hu
  clear hu
  have hbf := hbe.trans (hb.mono hbe.size)
  clear hb hbe HC
  have hbe := hbf
  clear hbf
  go_wp2_with fail
  refine (HCH.out _).mono ?_
  rintro e wa4 ⟨v, rfl, h, hb⟩
  have hbe4 := hbe.trans (hb.mono hbe.size)
  have HC := hid (H4.out v wa4 h)
  clear h hb hbe H4
  have hbe := hbe4
  clear hbe4
  go_wp2_with fail
  refine HC.out.mono ?_
  rintro e wb4 ⟨rfl, hb⟩
  have hbf := hbe.trans (hb.mono hbe.size)
  clear hb hbe HC
  have hbe := hbf
  clear hbf
  go_wp2_with fail
  refine (HCH.out _).mono ?_
  rintro e wa5 ⟨v, rfl, h, hb⟩
  have hbe5 := hbe.trans (hb.mono hbe.size)
  have HC := hid (H5.out v wa5 h)
  clear h hb hbe H5
  have hbe := hbe5
  clear hbe5
  go_wp2_with fail
  refine HC.out.mono ?_
  rintro e wb5 ⟨rfl, hb⟩
  have hbf := hbe.trans (hb.mono hbe.size)
  clear hb hbe HC
  have hbe := hbf
  clear hbf
  go_wp2_with fail
  refine (HCH.out _).mono ?_
  rintro e wa6 ⟨v, rfl, h, hb⟩
  have hbe6 := hbe.trans (hb.mono hbe.size)
  have HC := hid (H6.out v wa6 h)
  clear h hb hbe H6
  have hbe := hbe6
  clear hbe6
  go_wp2_with fail
  refine HC.out.mono ?_
  rintro e wb6 ⟨rfl, hb⟩
  have hbf := hbe.trans (hb.mono hbe.size)
  clear hb hbe HC
  have hbe := hbf
  clear hbf
  have HA := hid (HAL.out wb6)
  go_wp2_with fail
  refine HA.out.mono ?_
  rintro e w2 ⟨rfl, hb⟩
  have hbf := hbe.trans (hb.mono hbe.size)
  clear hb hbe
  go_wp2
  go_ret
  exact ⟨rfl, hbf⟩
end Go.Proofs.Ytindpgejnaofkaa.FlLN
