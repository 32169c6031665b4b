/- Walks over fescuelaw13.is, alive, CalcDoes, CalcRing, CalcOrder. -/
import Derived.Test.YtdbljknpdhpmeaaCaK
namespace Go.Proofs.Ytdbljknpdhpmeaa.CaS
open Go.RowKit Go.Lib SetP CaM CaK NumP

/-- is that what an operation answers? -/
def isB (op a b want : Int) : Bool := decide ((doO op a b).2 = 0) && decide ((doO op a b).1 = want)
set_option maxHeartbeats 1000000 in
theorem is_of (CD : DoC) (op a b want : Int) (w : World) (h0 : 0 ≤ op) (h1 : op ≤ 255) (ha : I64 a) (hb : I64 b) : Calls Try.prog 13 #[.int .u8 op, .int .i64 a, .int .i64 b, .int .i64 want] w (TestR (isB op a b want) w) := by
  have HC := hid (CD op a b w h0 h1 ha hb)
  have HI : Hid (isB op a b want = (((doO op a b).2 == 0) && ((doO op a b).1 == want))) := by
    show _ = _
    unfold isB
    by_cases h1 : (doO op a b).2 = 0 <;> by_cases h2 : (doO op a b).1 = want <;> simp [h1, h2]
  clear h0 h1 ha hb
  generalize isB op a b want = r at *
  generalize (doO op a b).1 = x at *
  generalize (doO op a b).2 = y at *
  by_cases hy : y = 0
  · have e1 : (y == 0) = true := by simpa using hy
    rw [e1, Bool.true_and] at HI
    clear hy
    generalize hxw : (x == want) = t at *
    have e2 := hxw
    have HT := hid hxw
    go_enter Try.func13, Try.ntmps13
    go_wp2_with fail
    refine HC.out.mono ?_
    rintro e w1 ⟨rfl, hb1⟩
    clear HC
    go_wp2
    go_ret
    exact ⟨by rw [HI.out]; rfl, hb1⟩
  · have e1 : (y == 0) = false := by simpa using hy
    rw [e1, Bool.false_and] at HI
    clear hy
    go_enter Try.func13, Try.ntmps13
    go_wp2_with fail
    refine HC.out.mono ?_
    rintro e w1 ⟨rfl, hb1⟩
    clear HC
    go_wp2
    go_ret
    exact ⟨by rw [HI.out]; rfl, hb1⟩
theorem f1 : isB 4 9223372036854775807 1 (-9223372036854775808) = true := by decide +kernel
theorem f2 : isB 6 4294967296 4294967296 0 = true := by decide +kernel
theorem f3 : isB 7 (-7) 2 (-3) = true := by decide +kernel
theorem f4 : isB 8 (-1) 0 1 = true := by decide +kernel
theorem alive_of (CD : DoC) (w : World) : Calls Try.prog 12 #[] w (TestR true w) := by
  have HC := hid (fun op a b want wx h0 h1 ha hb => is_of CD op a b want wx h0 h1 ha hb)
  have HB0 := hid (Below.refl w.heap.size w)
  go_enter Try.func12, Try.ntmps12
  go_wp2_with fail
  refine (HC.out 4 9223372036854775807 1 (-9223372036854775808) _ (by decide) (by decide) ⟨by decide, by decide⟩ ⟨by decide, by decide⟩).mono ?_
  rw [f1]
  rintro e w1 ⟨rfl, hb⟩
  have HB1 := hid (HB0.out.trans (hb.mono HB0.out.size)); clear hb
  go_wp2_with fail
  refine (HC.out 6 4294967296 4294967296 0 _ (by decide) (by decide) ⟨by decide, by decide⟩ ⟨by decide, by decide⟩).mono ?_
  rw [f2]
  rintro e w2 ⟨rfl, hb⟩
  have HB2 := hid (HB1.out.trans (hb.mono HB1.out.size)); clear hb
  go_wp2_with fail
  refine (HC.out 7 (-7) 2 (-3) _ (by decide) (by decide) ⟨by decide, by decide⟩ ⟨by decide, by decide⟩).mono ?_
  rw [f3]
  rintro e w3 ⟨rfl, hb⟩
  have HB3 := hid (HB2.out.trans (hb.mono HB2.out.size)); clear hb
  go_wp2_with fail
  refine (HC.out 8 (-1) 0 1 _ (by decide) (by decide) ⟨by decide, by decide⟩ ⟨by decide, by decide⟩).mono ?_
  rw [f4]
  rintro e w4 ⟨rfl, hb⟩
  have HB4 := hid (HB3.out.trans (hb.mono HB3.out.size)); clear hb
  go_wp2
  go_ret
  exact ⟨rfl, HB4.out⟩
end Go.Proofs.Ytdbljknpdhpmeaa.CaS
