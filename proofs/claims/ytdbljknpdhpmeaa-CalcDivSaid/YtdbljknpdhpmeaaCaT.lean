/- Walks over fescuelaw13.CalcRing and others: sums and products in any order. -/
import Derived.Test.YtdbljknpdhpmeaaCaS
namespace Go.Proofs.Ytdbljknpdhpmeaa.CaT
open Go.RowKit Go.Lib SetP CaM CaK CaS NumP

theorem i64_of {n : Int} (h : (Lit.int .i64 n).wf = true) : I64 n := by
  unfold I64
  simpa [Lit.wf, IntKind.min, IntKind.max, IntKind.signed, IntKind.bits] using h
theorem is_yes {op a b want : Int} (h : doO op a b = (want, 0)) : isB op a b want = true := by unfold isB; rw [h]; simp
theorem do4 (a b : Int) : doO 4 a b = (wr (a + b), 0) := rfl
theorem do5 (a b : Int) : doO 5 a b = (wr (a - b), 0) := rfl
theorem do6 (a b : Int) : doO 6 a b = (wr (a * b), 0) := rfl
theorem do8 (a b : Int) : doO 8 a b = (if a < b then 1 else 0, 0) := rfl
theorem do9 (a b : Int) : doO 9 a b = (if a = b then 1 else 0, 0) := rfl
theorem do7 {a b : Int} (h : b ≠ 0) : doO 7 a b = (wr (a.tdiv b), 0) := by unfold doO; rw [if_neg (by decide), if_neg (fun e => h e.2)]; rfl
theorem do70 (a : Int) : doO 7 a 0 = (0, 130) := rfl

set_option maxRecDepth 100000 in
set_option maxHeartbeats 8000000 in
theorem calcRing_of (CD : DoC) (a : Int) (aw : (Lit.int .i64 a).wf = true) (b : Int) (bw : (Lit.int .i64 b).wf = true) (c : Int) (cw : (Lit.int .i64 c).wf = true) (W : World) : Calls Try.prog 6 #[.int .i64 a, .int .i64 b, .int .i64 c] W (fun e W' => e = .returned (.bool true) ∧ Below W.heap.size W W') := by
  have HAL := hid (fun w => alive_of CD w)
  have HCD := hid CD
  have HIS := hid (fun op a b want wx h0 h1 ha hb => is_of CD op a b want wx h0 h1 ha hb)
  have HB0 := hid (Below.refl W.heap.size W)
  have H64a := hid (i64_of aw)
  have H64b := hid (i64_of bw)
  have H64c := hid (i64_of cw)
  clear CD aw bw cw
  obtain ⟨ab, hab⟩ : ∃ ab, ab = wr (a + b) := ⟨_, rfl⟩
  have H64ab : Hid (I64 ab) := by show I64 _; rw [hab]; exact wr_i64 _
  obtain ⟨bc, hbc⟩ : ∃ bc, bc = wr (b + c) := ⟨_, rfl⟩
  have H64bc : Hid (I64 bc) := by show I64 _; rw [hbc]; exact wr_i64 _
  obtain ⟨x, hx⟩ : ∃ x, x = wr (ab + c) := ⟨_, rfl⟩
  have H64x : Hid (I64 x) := by show I64 _; rw [hx]; exact wr_i64 _
  obtain ⟨p, hp⟩ : ∃ p, p = wr (a * b) := ⟨_, rfl⟩
  have H64p : Hid (I64 p) := by show I64 _; rw [hp]; exact wr_i64 _
  obtain ⟨q, hq⟩ : ∃ q, q = wr (a * c) := ⟨_, rfl⟩
  have H64q : Hid (I64 q) := by show I64 _; rw [hq]; exact wr_i64 _
  obtain ⟨r, hr⟩ : ∃ r, r = wr (b * c) := ⟨_, rfl⟩
  have H64r : Hid (I64 r) := by show I64 _; rw [hr]; exact wr_i64 _
  obtain ⟨y, hy⟩ : ∃ y, y = wr (p * c) := ⟨_, rfl⟩
  have H64y : Hid (I64 y) := by show I64 _; rw [hy]; exact wr_i64 _
  obtain ⟨z, hz⟩ : ∃ z, z = wr (a * bc) := ⟨_, rfl⟩
  have H64z : Hid (I64 z) := by show I64 _; rw [hz]; exact wr_i64 _
  have F1 : Hid (doO 4 a b = (ab, 0)) := by
    show _ = _
    rw [do4, hab]
  have F2 : Hid (doO 4 b c = (bc, 0)) := by
    show _ = _
    rw [do4, hbc]
  have F3 : Hid (doO 4 ab c = (x, 0)) := by
    show _ = _
    rw [do4, hx]
  have F4 : Hid (doO 6 a b = (p, 0)) := by
    show _ = _
    rw [do6, hp]
  have F5 : Hid (doO 6 a c = (q, 0)) := by
    show _ = _
    rw [do6, hq]
  have F6 : Hid (doO 6 b c = (r, 0)) := by
    show _ = _
    rw [do6, hr]
  have F7 : Hid (doO 6 p c = (y, 0)) := by
    show _ = _
    rw [do6, hy]
  have F8 : Hid (doO 6 a bc = (z, 0)) := by
    show _ = _
    rw [do6, hz]
  have F9 : Hid (isB 4 a bc x = true) := by
    show _ = _
    refine is_yes ?_
    rw [do4]
    rw [hx, hab, hbc, add_assoc]
  have F10 : Hid (isB 4 b a ab = true) := by
    show _ = _
    refine is_yes ?_
    rw [do4]
    rw [hab, add_comm]
  have F11 : Hid (isB 6 b a p = true) := by
    show _ = _
    refine is_yes ?_
    rw [do6]
    rw [hp, CaM.mul_comm]
  have F12 : Hid (isB 6 a r y = true) := by
    show _ = _
    refine is_yes ?_
    rw [do6]
    rw [hy, hp, hr, CaM.mul_assoc]
  have F13 : Hid (isB 4 p q z = true) := by
    show _ = _
    refine is_yes ?_
    rw [do4]
    rw [hz, hp, hq, hbc, CaM.mul_add]
  have F14 : Hid (isB 5 ab b a = true) := by
    show _ = _
    refine is_yes ?_
    rw [do5]
    rw [hab, sub_back b H64a.out]
  have F15 : Hid (isB 4 a 0 a = true) := by
    show _ = _
    refine is_yes ?_
    rw [do4]
    rw [CaM.add_zero H64a.out]
  have F16 : Hid (isB 6 a 1 a = true) := by
    show _ = _
    refine is_yes ?_
    rw [do6]
    rw [CaM.mul_one H64a.out]
  have F17 : Hid (isB 6 a 0 0 = true) := by
    show _ = _
    refine is_yes ?_
    rw [do6]
    rw [CaM.mul_zero]
  clear hab hbc hx hp hq hr hy hz
  go_enter Try.func6, Try.ntmps6
  go_wp2_with fail
  refine (HAL.out _).mono ?_
  rintro e w1 ⟨rfl, hb⟩
  have HB1 := hid (HB0.out.trans (hb.mono HB0.out.size))
  clear hb
  go_wp2_with fail
  refine (HCD.out 4 a b _ (by decide) (by decide) H64a.out H64b.out).mono ?_
  rw [F1.out]
  rintro e w2 ⟨rfl, hb⟩
  have HB2 := hid (HB1.out.trans (hb.mono HB1.out.size))
  clear hb
  go_wp2_with fail
  refine (HCD.out 4 b c _ (by decide) (by decide) H64b.out H64c.out).mono ?_
  rw [F2.out]
  rintro e w3 ⟨rfl, hb⟩
  have HB3 := hid (HB2.out.trans (hb.mono HB2.out.size))
  clear hb
  go_wp2_with fail
  refine (HCD.out 4 ab c _ (by decide) (by decide) H64ab.out H64c.out).mono ?_
  rw [F3.out]
  rintro e w4 ⟨rfl, hb⟩
  have HB4 := hid (HB3.out.trans (hb.mono HB3.out.size))
  clear hb
  go_wp2_with fail
  refine (HCD.out 6 a b _ (by decide) (by decide) H64a.out H64b.out).mono ?_
  rw [F4.out]
  rintro e w5 ⟨rfl, hb⟩
  have HB5 := hid (HB4.out.trans (hb.mono HB4.out.size))
  clear hb
  go_wp2_with fail
  refine (HCD.out 6 a c _ (by decide) (by decide) H64a.out H64c.out).mono ?_
  rw [F5.out]
  rintro e w6 ⟨rfl, hb⟩
  have HB6 := hid (HB5.out.trans (hb.mono HB5.out.size))
  clear hb
  go_wp2_with fail
  refine (HCD.out 6 b c _ (by decide) (by decide) H64b.out H64c.out).mono ?_
  rw [F6.out]
  rintro e w7 ⟨rfl, hb⟩
  have HB7 := hid (HB6.out.trans (hb.mono HB6.out.size))
  clear hb
  go_wp2_with fail
  refine (HCD.out 6 p c _ (by decide) (by decide) H64p.out H64c.out).mono ?_
  rw [F7.out]
  rintro e w8 ⟨rfl, hb⟩
  have HB8 := hid (HB7.out.trans (hb.mono HB7.out.size))
  clear hb
  go_wp2_with fail
  refine (HCD.out 6 a bc _ (by decide) (by decide) H64a.out H64bc.out).mono ?_
  rw [F8.out]
  rintro e w9 ⟨rfl, hb⟩
  have HB9 := hid (HB8.out.trans (hb.mono HB8.out.size))
  clear hb
  go_wp2_with fail
  refine (HIS.out 4 a bc x _ (by decide) (by decide) H64a.out H64bc.out).mono ?_
  rw [F9.out]
  rintro e w10 ⟨rfl, hb⟩
  have HB10 := hid (HB9.out.trans (hb.mono HB9.out.size))
  clear hb
  go_wp2_with fail
  refine (HIS.out 4 b a ab _ (by decide) (by decide) H64b.out H64a.out).mono ?_
  rw [F10.out]
  rintro e w11 ⟨rfl, hb⟩
  have HB11 := hid (HB10.out.trans (hb.mono HB10.out.size))
  clear hb
  go_wp2_with fail
  refine (HIS.out 6 b a p _ (by decide) (by decide) H64b.out H64a.out).mono ?_
  rw [F11.out]
  rintro e w12 ⟨rfl, hb⟩
  have HB12 := hid (HB11.out.trans (hb.mono HB11.out.size))
  clear hb
  go_wp2_with fail
  refine (HIS.out 6 a r y _ (by decide) (by decide) H64a.out H64r.out).mono ?_
  rw [F12.out]
  rintro e w13 ⟨rfl, hb⟩
  have HB13 := hid (HB12.out.trans (hb.mono HB12.out.size))
  clear hb
  go_wp2_with fail
  refine (HIS.out 4 p q z _ (by decide) (by decide) H64p.out H64q.out).mono ?_
  rw [F13.out]
  rintro e w14 ⟨rfl, hb⟩
  have HB14 := hid (HB13.out.trans (hb.mono HB13.out.size))
  clear hb
  go_wp2_with fail
  refine (HIS.out 5 ab b a _ (by decide) (by decide) H64ab.out H64b.out).mono ?_
  rw [F14.out]
  rintro e w15 ⟨rfl, hb⟩
  have HB15 := hid (HB14.out.trans (hb.mono HB14.out.size))
  clear hb
  go_wp2_with fail
  refine (HIS.out 4 a 0 a _ (by decide) (by decide) H64a.out ⟨by decide, by decide⟩).mono ?_
  rw [F15.out]
  rintro e w16 ⟨rfl, hb⟩
  have HB16 := hid (HB15.out.trans (hb.mono HB15.out.size))
  clear hb
  go_wp2_with fail
  refine (HIS.out 6 a 1 a _ (by decide) (by decide) H64a.out ⟨by decide, by decide⟩).mono ?_
  rw [F16.out]
  rintro e w17 ⟨rfl, hb⟩
  have HB17 := hid (HB16.out.trans (hb.mono HB16.out.size))
  clear hb
  go_wp2_with fail
  refine (HIS.out 6 a 0 0 _ (by decide) (by decide) H64a.out ⟨by decide, by decide⟩).mono ?_
  rw [F17.out]
  rintro e w18 ⟨rfl, hb⟩
  have HB18 := hid (HB17.out.trans (hb.mono HB17.out.size))
  clear hb
  go_wp2
  go_ret
  exact ⟨rfl, HB18.out⟩
end Go.Proofs.Ytdbljknpdhpmeaa.CaT
