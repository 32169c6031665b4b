/- Walk over fescuelaw13.CalcTells; values compared. -/
import Derived.Test.YtdbljknpdhpmeaaCaX
import Derived.Test.YtdbljknpdhpmeaaCaT
import Derived.Laws.StructEq
import Derived.Deep.RegionHeld3
namespace Go.Proofs.Ytdbljknpdhpmeaa.CaY
open Go.RowKit Go.Lib SetP CaM CaK CaR CaW CaX CaT NumP

theorem vaHeld : Try.prog.stoodInHeld 26 = false := by kernel_rfl
theorem vaFields : (Try.prog.fieldsOf 26).toList.map (fun f => (f.name == "_", f.type, f.offset)) = [(false, 5, 0), (false, 2, 1), (false, 3, 2), (false, 3, 3)] := by kernel_rfl
theorem vaUnder : Try.prog.underlying 26 = some (.struct (Try.prog.fieldsOf 26)) := by kernel_rfl
set_option maxHeartbeats 1000000 in
theorem eql_va (x0 x1 x2 x3 y0 y1 y2 y3 : Int) (w : World) : (binOp .eql 26 (.agg #[.int .u8 x0, .int .i64 x1, .int .i64 x2, .int .i64 x3]) (.agg #[.int .u8 y0, .int .i64 y1, .int .i64 y2, .int .i64 y3])).run Try.prog w = .ok (.bool ((x0 == y0) && ((x1 == y1) && ((x2 == y2) && (x3 == y3))))) w := by
  rw [run_eql_struct, run_equalIn_struct w 9999 _ _ _ vaUnder vaHeld]
  have hf := vaFields
  generalize (Try.prog.fieldsOf 26).toList = fs at hf
  rcases fs with _ | ⟨f0, _ | ⟨f1, _ | ⟨f2, _ | ⟨f3, _ | ⟨g, t⟩⟩⟩⟩⟩
  · simp at hf
  · simp at hf
  · simp at hf
  · simp at hf
  · simp only [List.map_cons, List.map_nil, List.cons.injEq, Prod.mk.injEq, and_true] at hf
    obtain ⟨⟨a0, b0, c0⟩, ⟨a1, b1, c1⟩, ⟨a2, b2, c2⟩, a3, b3, c3⟩ := hf
    have n0 : f0.name ≠ "_" := by simpa using a0
    have n1 : f1.name ≠ "_" := by simpa using a1
    have n2 : f2.name ≠ "_" := by simpa using a2
    have n3 : f3.name ≠ "_" := by simpa using a3
    simp only [Op.eqFields, ne_eq, n0, n1, n2, n3, not_false_eq_true, if_true, b0, c0, b1, c1, b2, c2, b3, c3]
    have ui64 := Try.underlying3
    have ui64b := Try.underlying2
    have uu8 := Try.underlying5
    simp [go_sem, ui64, ui64b, uu8]
    all_goals (try (repeat' split) <;> simp_all)
  · simp at hf
def Bel (W w' : World) : Prop := Below W.heap.size W w'
theorem Bel.go {W w w' : World} (h : Bel W w) (hb : Below w.heap.size w w') : Bel W w' := Below.trans h (hb.mono (Below.size h))
theorem Bel.drew {W w : World} (h : Bel W w) : Bel W w.drew := Below.drew h
theorem Bel.refl (W : World) : Bel W W := Below.refl _ _
/-- a value in a block of its own, in every world behind -/
theorem val_at (w : World) (x : Vx) {W : World} (hW : Bel (w.alloc (.cells #[.int .u8 x.kind, .int .i64 x.n, .int .i64 x.block, .int .i64 x.at_] 26)) W) :
    W.cell? ⟨w.heap.size, 0, none⟩ = some (.int .u8 x.kind) ∧ W.cell? ⟨w.heap.size, 1, none⟩ = some (.int .i64 x.n) ∧ W.cell? ⟨w.heap.size, 2, none⟩ = some (.int .i64 x.block) ∧ W.cell? ⟨w.heap.size, 3, none⟩ = some (.int .i64 x.at_) := by
  refine ⟨?_, ?_, ?_, ?_⟩
  · exact (Below.cell hW (p := ⟨w.heap.size, 0, none⟩) (by simp)).trans (by simp)
  · exact (Below.cell hW (p := ⟨w.heap.size, 1, none⟩) (by simp)).trans (by simp)
  · exact (Below.cell hW (p := ⟨w.heap.size, 2, none⟩) (by simp)).trans (by simp)
  · exact (Below.cell hW (p := ⟨w.heap.size, 3, none⟩) (by simp)).trans (by simp)
set_option maxRecDepth 100000 in
set_option maxHeartbeats 8000000 in
theorem calcTells_of (CC : ChkVC) (CF : FirstC) (CT : FitsC) (x : Vx) (hx : VxOk x) (k : Int) (kw : (Lit.int .u8 k).wf = true) (W : World) : Calls Try.prog 5 #[valV x, .int .u8 k] W (fun e W' => e = .returned (.bool true) ∧ Below W.heap.size W W') := by
  have hk : 0 ≤ k ∧ k ≤ 255 := by simpa [Lit.wf, IntKind.min, IntKind.max, IntKind.signed, IntKind.bits] using kw
  have HC1 := hid (fun wx => CF k wx hk.1 hk.2)
  have HC2 := hid (fun wx => first_calls k wx hk.1 hk.2)
  have HC3 := hid (fun wx => CC x wx hx)
  have HC4 := hid (fun wx => check_calls x wx hx)
  have HC5 := hid (fun wx => CT x k wx hx hk.1 hk.2)
  have HC6 := hid (fun wx => fits_calls x k wx hx)
  have hb0 := alloc_below W (.cells #[.int .u8 x.kind, .int .i64 x.n, .int .i64 x.block, .int .i64 x.at_] 26)
  have HB0 := hid hb0
  clear CC CF CT hx kw hk hb0
  generalize firstV k = v at *
  generalize firstE k = er at *
  generalize chkV x = ck at *
  generalize fitsV x k = ft at *
  obtain ⟨x0, x1, x2, x3⟩ := x
  obtain ⟨v0, v1, v2, v3⟩ := v
  unfold valV ValE at *
  simp only at *
  have e1 : (ck == ck) = true := by simp
  have e2 : (er == er) = true := by simp
  have e3 : (ft == ft) = true := by simp
  have hq := fun w => eql_va v0 v1 v2 v3 v0 v1 v2 v3 w
  simp only [beq_self_eq_true, Bool.and_self] at hq
  have HQ := hid hq
  clear hq
  go_enter Try.func5, Try.ntmps5
  go_wp2_with fail
  refine (HC1.out _).mono ?_
  rintro e w1 ⟨rfl, hb1⟩
  unfold valV
  simp only
  have HB1 := hid (HB0.out.trans (hb1.mono HB0.out.size))
  have ha1 := alloc_below w1 (.cells #[.int .u8 v0, .int .i64 v1, .int .i64 v2, .int .i64 v3] 26)
  have HA1 := hid ha1
  have HX1 := hid hb1
  clear HC1 hb1 ha1
  go_wp2_with fail
  refine (HC2.out _).mono ?_
  rintro e w2 ⟨rfl, hb2⟩
  unfold valV
  simp only
  have ha2 := alloc_below w2 (.cells #[.int .u8 v0, .int .i64 v1, .int .i64 v2, .int .i64 v3] 26)
  obtain ⟨W2, hW2⟩ : ∃ W2, W2 = w2.alloc (.cells #[.int .u8 v0, .int .i64 v1, .int .i64 v2, .int .i64 v3] 26) := ⟨_, rfl⟩
  go_upto_region 3 with fail
  rw [← hW2]
  have HW2 := hid hW2
  have b2 : Bel W W2 := by
    rw [hW2]
    exact ((Bel.go HB1.out HA1.out).go hb2).go ha2
  have y0 : Bel (W.alloc (.cells #[.int .u8 x0, .int .i64 x1, .int .i64 x2, .int .i64 x3] 26)) W2 := by
    rw [hW2]
    exact ((Bel.go HX1.out HA1.out).go hb2).go ha2
  have y1 : Bel (w1.alloc (.cells #[.int .u8 v0, .int .i64 v1, .int .i64 v2, .int .i64 v3] 26)) W2 := by
    rw [hW2]
    exact Bel.go hb2 ha2
  have y2 : Bel (w2.alloc (.cells #[.int .u8 v0, .int .i64 v1, .int .i64 v2, .int .i64 v3] 26)) W2 := by
    rw [hW2]
    exact Bel.refl _
  have HX := hid (fun w' (h : Bel W2 w') => val_at W ⟨x0, x1, x2, x3⟩ (y0.go h))
  have HV1 := hid (fun w' (h : Bel W2 w') => val_at w1 ⟨v0, v1, v2, v3⟩ (y1.go h))
  have HV2 := hid (fun w' (h : Bel W2 w') => val_at w2 ⟨v0, v1, v2, v3⟩ (y2.go h))
  have l0 := fun w' (h : Bel W2 w') => (HX.out w' h).1
  have l1 := fun w' (h : Bel W2 w') => (HX.out w' h).2.1
  have l2 := fun w' (h : Bel W2 w') => (HX.out w' h).2.2.1
  have l3 := fun w' (h : Bel W2 w') => (HX.out w' h).2.2.2
  have m0 := fun w' (h : Bel W2 w') => (HV1.out w' h).1
  have m1 := fun w' (h : Bel W2 w') => (HV1.out w' h).2.1
  have m2 := fun w' (h : Bel W2 w') => (HV1.out w' h).2.2.1
  have m3 := fun w' (h : Bel W2 w') => (HV1.out w' h).2.2.2
  have n0 := fun w' (h : Bel W2 w') => (HV2.out w' h).1
  have n1 := fun w' (h : Bel W2 w') => (HV2.out w' h).2.1
  have n2 := fun w' (h : Bel W2 w') => (HV2.out w' h).2.2.1
  have n3 := fun w' (h : Bel W2 w') => (HV2.out w' h).2.2.2
  simp only at l0 l1 l2 l3 m0 m1 m2 m3 n0 n1 n2 n3
  have r2 := Bel.refl W2
  have HB2 := hid b2
  have hq := HQ.out
  clear HX HV1 HV2 y0 y1 y2 b2 hb2 ha2 hW2 HC2 HX1 HA1 HB1 HB0 HQ
  go_region_held3 (fun w' => Bel W2 w')
    (first | exact (((r2.drew.go hb3).go hb4).go hb5).go hb6 | exact ((r2.drew.go hb3).go hb4).go hb5 | exact (r2.drew.go hb3).go hb4 | exact r2.drew.go hb3 | exact r2.drew | exact r2)
    (first | (go_at_call 11; (with_reducible refine (HC3.out _).mono ?_); rintro e w3 ⟨rfl, hb3⟩) | (go_at_call 17; (with_reducible refine (HC4.out _).mono ?_); rintro e w4 ⟨rfl, hb4⟩) | (go_at_call 14; (with_reducible refine (HC5.out _).mono ?_); rintro e w5 ⟨rfl, hb5⟩) | (go_at_call 18; (with_reducible refine (HC6.out _).mono ?_); rintro e w6 ⟨rfl, hb6⟩))
  all_goals
    have HE := hid ((((r2.drew.go hb3).go hb4).go hb5).go hb6)
    go_wp2
    go_ret
    exact ⟨rfl, Bel.go HB2.out HE.out⟩
end Go.Proofs.Ytdbljknpdhpmeaa.CaY
