/- Plain facts of reckoning: sums, products, quotients of 64 bits; which is less. -/
import Derived.Test.YtdbljknpdhpmeaaNumP
import Derived.IntWalk
namespace Go.Proofs.Ytdbljknpdhpmeaa.CaM
open NumP

/-- a number as it is told in 64 bits -/
def wr (x : Int) : Int := (x + 9223372036854775808) % 18446744073709551616 - 9223372036854775808
theorem wr_wrap (x : Int) : Go.IntKind.i64.wrap x = wr x := by rw [Go.IntKind.wrap_i64]; unfold wr; omega
theorem wr_64 (x : Int) : Go.RowKit.wrap64 x = wr x := by unfold Go.RowKit.wrap64 wr; omega
theorem wr_i64 (x : Int) : I64 (wr x) := by unfold wr I64; omega
theorem wr_in {x : Int} (h : I64 x) : wr x = x := by unfold I64 at h; unfold wr; omega
theorem wr_add (x k : Int) : wr (x + k * 18446744073709551616) = wr x := by unfold wr; omega
/-- it is told but for so many times all -/
theorem wr_is (x : Int) : ∃ k, wr x = x + k * 18446744073709551616 := ⟨-((x + 9223372036854775808) / 18446744073709551616), by unfold wr; omega⟩
theorem wr_of {x y k : Int} (h : x = y + k * 18446744073709551616) : wr x = wr y := by rw [h, wr_add]
/-- what an operation answers -/
def calcO (op a b : Int) : Int :=
  if op = 4 then wr (a + b) else if op = 5 then wr (a - b) else if op = 6 then wr (a * b) else if op = 7 then wr (a.tdiv b) else if op = 8 then (if a < b then 1 else 0) else (if a = b then 1 else 0)
def doO (op a b : Int) : Int × Int := if op < 4 ∨ 9 < op then (0, 2) else if op = 7 ∧ b = 0 then (0, 130) else (calcO op a b, 0)

theorem add_assoc (a b c : Int) : wr (wr (a + b) + c) = wr (a + wr (b + c)) := by
  obtain ⟨k, hk⟩ := wr_is (a + b)
  obtain ⟨j, hj⟩ := wr_is (b + c)
  rw [hk, hj]
  exact wr_of (k := k - j) (by rw [Int.sub_mul]; omega)
theorem add_comm (a b : Int) : wr (b + a) = wr (a + b) := by rw [Int.add_comm]
theorem mul_comm (a b : Int) : wr (b * a) = wr (a * b) := by rw [Int.mul_comm]
theorem mul_left (x y : Int) : wr (wr x * y) = wr (x * y) := by
  obtain ⟨k, hk⟩ := wr_is x
  rw [hk]
  exact wr_of (k := k * y) (by rw [Int.add_mul, Int.mul_assoc, Int.mul_assoc, Int.mul_comm 18446744073709551616 y])
theorem mul_right (x y : Int) : wr (x * wr y) = wr (x * y) := by rw [Int.mul_comm, mul_left, Int.mul_comm]
theorem mul_assoc (a b c : Int) : wr (a * wr (b * c)) = wr (wr (a * b) * c) := by rw [mul_right, mul_left, Int.mul_assoc]
theorem mul_add (a b c : Int) : wr (wr (a * b) + wr (a * c)) = wr (a * wr (b + c)) := by
  rw [mul_right, Int.mul_add]
  obtain ⟨k, hk⟩ := wr_is (a * b)
  obtain ⟨j, hj⟩ := wr_is (a * c)
  rw [hk, hj]
  exact wr_of (k := k + j) (by rw [Int.add_mul]; omega)
theorem sub_back {a : Int} (b : Int) (h : I64 a) : wr (wr (a + b) - b) = a := by
  obtain ⟨k, hk⟩ := wr_is (a + b)
  rw [hk]
  refine (wr_of (k := k) (y := a) (by omega)).trans (wr_in h)
theorem add_zero {a : Int} (h : I64 a) : wr (a + 0) = a := by rw [Int.add_zero]; exact wr_in h
theorem mul_one {a : Int} (h : I64 a) : wr (a * 1) = a := by rw [Int.mul_one]; exact wr_in h
theorem mul_zero (a : Int) : wr (a * 0) = 0 := by rw [Int.mul_zero]; rfl
/-- a quotient, and what is left -/
theorem div_i64 {a b : Int} (ha : I64 a) (hne : a ≠ -9223372036854775808) : I64 (a.tdiv b) := by
  have h1 : (a.tdiv b).natAbs = a.natAbs / b.natAbs := Int.natAbs_tdiv a b
  have h2 : a.natAbs / b.natAbs ≤ a.natAbs := Nat.div_le_self _ _
  unfold I64 at *
  omega
theorem div_rest {a b : Int} (ha : I64 a) (hb : I64 b) (hne : a ≠ -9223372036854775808) (h0 : b ≠ 0) :
    wr (a.tdiv b) = a.tdiv b ∧ wr (a.tdiv b * b) = a.tdiv b * b ∧ wr (a - a.tdiv b * b) = a.tmod b ∧ (a.tmod b).natAbs < b.natAbs ∧ (a.tmod b = 0 ∨ (a.tmod b < 0 ↔ a < 0)) ∧ wr (a.tdiv b * b + a.tmod b) = a := by
  have e : a.tdiv b * b + a.tmod b = a := Int.tdiv_mul_add_tmod a b
  have hm : (a.tmod b).natAbs = a.natAbs % b.natAbs := Int.natAbs_tmod a b
  have hlt : a.natAbs % b.natAbs < b.natAbs := Nat.mod_lt _ (by omega)
  have hle : a.natAbs % b.natAbs ≤ a.natAbs := Nat.mod_le _ _
  have hs : a.tmod b = 0 ∨ (a.tmod b < 0 ↔ a < 0) := by
    by_cases hn : a < 0
    · have : a.tmod b ≤ 0 := by
        have := Int.tmod_nonneg b (show 0 ≤ -a by omega)
        rw [Int.neg_tmod] at this
        omega
      omega
    · have := Int.tmod_nonneg b (show 0 ≤ a by omega)
      omega
  have hmul : I64 (a.tdiv b * b) := by
    unfold I64 at *
    omega
  refine ⟨wr_in (div_i64 ha hne), wr_in hmul, ?_, by omega, hs, by rw [e]; exact wr_in ha⟩
  rw [show a - a.tdiv b * b = a.tmod b by omega]
  refine wr_in ?_
  unfold I64 at *
  omega
end Go.Proofs.Ytdbljknpdhpmeaa.CaM
