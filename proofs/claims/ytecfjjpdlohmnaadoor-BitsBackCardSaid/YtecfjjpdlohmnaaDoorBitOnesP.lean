/- Plain facts: how many bits a word has, counted pair by pair. -/
import Derived.Test.YtecfjjpdlohmnaaDoorSetO
namespace Go.Proofs.YtecfjjpdlohmnaaDoor.BitOnesP
open SetP SetO

/-- how many of the lowest n bits are set -/
def ones : Nat → Nat → Nat
  | 0, _ => 0
  | n + 1, x => x % 2 + ones n (x / 2)
theorem ones_le : ∀ (n x : Nat), ones n x ≤ n
  | 0, _ => Nat.le_refl _
  | n + 1, x => by have := ones_le n (x / 2); simp only [ones]; omega
theorem ones_add : ∀ (m n x : Nat), ones (m + n) x = ones m x + ones n (x / 2 ^ m)
  | 0, n, x => by simp [ones]
  | m + 1, n, x => by
    rw [show m + 1 + n = (m + n) + 1 by omega]
    simp only [ones]
    rw [ones_add m n (x / 2), Nat.div_div_eq_div_mul, show 2 * 2 ^ m = 2 ^ (m + 1) by rw [Nat.pow_succ]; omega]
    omega
theorem ones_mod : ∀ (n x : Nat), ones n (x % 2 ^ n) = ones n x
  | 0, _ => rfl
  | n + 1, x => by
    simp only [ones]
    have h : x % 2 ^ (n + 1) / 2 = x / 2 % 2 ^ n := by
      rw [Nat.pow_succ, Nat.mul_comm, Nat.mod_mul_right_div_self]
    have h2 : x % 2 ^ (n + 1) % 2 = x % 2 := by
      rw [Nat.pow_succ]; exact Nat.mod_mul_left_mod x (2 ^ n) 2
    rw [h, h2, ones_mod n (x / 2)]

/-- m, n times, each k bits wide -/
def R (k m : Nat) : Nat → Nat
  | 0 => 0
  | n + 1 => 2 ^ k * R k m n + m
theorem and_low (k a b d e : Nat) (hd : d < 2 ^ k) (he : e < 2 ^ k) : (2 ^ k * a + d) &&& (2 ^ k * b + e) = 2 ^ k * (a &&& b) + (d &&& e) := by
  refine Nat.eq_of_testBit_eq fun j => ?_
  have hde : d &&& e < 2 ^ k := Nat.and_lt_two_pow _ he
  rw [Nat.testBit_and, Nat.testBit_two_pow_mul_add _ hd, Nat.testBit_two_pow_mul_add _ he, Nat.testBit_two_pow_mul_add _ hde]
  split
  · rw [Nat.testBit_and]
  · rw [Nat.testBit_and]
theorem and_R (k m n x : Nat) (hm : m < 2 ^ k) : x &&& R k m (n + 1) = 2 ^ k * (x / 2 ^ k &&& R k m n) + (x % 2 ^ k &&& m) := by
  conv => lhs; rw [← Nat.div_add_mod x (2 ^ k)]
  exact and_low k _ _ _ _ (Nat.mod_lt _ (Nat.two_pow_pos k)) hm

/-- pairs -/
def S1 (n x : Nat) : Nat := (x / 2 &&& R 2 1 n) + (x &&& R 2 1 n)
theorem S1_zero (x : Nat) : S1 0 x = 0 := by simp [S1, R]
theorem S1_succ (n x : Nat) : S1 (n + 1) x = 4 * S1 n (x / 4) + ones 2 x := by
  unfold S1
  rw [and_R 2 1 n _ (by decide), and_R 2 1 n x (by decide)]
  have e1 : x / 2 / 2 ^ 2 = x / 4 / 2 := by omega
  have e2 : (x / 2 % 2 ^ 2 &&& 1) = x / 2 % 2 := by rw [Nat.and_one_is_mod]; omega
  have e3 : (x % 2 ^ 2 &&& 1) = x % 2 := by rw [Nat.and_one_is_mod]; omega
  rw [e1, e2, e3]
  simp only [ones]
  generalize (x / 4 / 2 &&& R 2 1 n) = p
  rw [show x / 2 ^ 2 = x / 4 by omega]
  generalize (x / 4 &&& R 2 1 n) = q
  omega
/-- fours -/
def S2 (n y : Nat) : Nat := (y / 4 &&& R 4 3 n) + (y &&& R 4 3 n)
theorem S2_succ (n y : Nat) : S2 (n + 1) y = 16 * S2 n (y / 16) + (y / 4 % 4 + y % 4) := by
  unfold S2
  rw [and_R 4 3 n _ (by decide), and_R 4 3 n y (by decide)]
  have e1 : y / 4 / 2 ^ 4 = y / 16 / 4 := by omega
  have e2 : (y / 4 % 2 ^ 4 &&& 3) = y / 4 % 4 := by
    have := Nat.and_two_pow_sub_one_eq_mod (y / 4 % 2 ^ 4) 2
    simp only [show 2 ^ 2 - 1 = 3 by decide] at this
    rw [this]; omega
  have e3 : (y % 2 ^ 4 &&& 3) = y % 4 := by
    have := Nat.and_two_pow_sub_one_eq_mod (y % 2 ^ 4) 2
    simp only [show 2 ^ 2 - 1 = 3 by decide] at this
    rw [this]; omega
  rw [e1, e2, e3, show y / 2 ^ 4 = y / 16 by omega]
  generalize (y / 16 / 4 &&& R 4 3 n) = p
  generalize (y / 16 &&& R 4 3 n) = q
  omega
def T2 (n x : Nat) : Nat := S2 n (S1 (2 * n) x)
theorem T2_zero (x : Nat) : T2 0 x = 0 := by simp [T2, S2, R]
theorem ones_four (x : Nat) : ones 4 x = ones 2 x + ones 2 (x / 4) := ones_add 2 2 x
theorem T2_succ (n x : Nat) : T2 (n + 1) x = 16 * T2 n (x / 16) + ones 4 x := by
  unfold T2
  rw [show 2 * (n + 1) = 2 * n + 1 + 1 by omega, S1_succ, S1_succ, S2_succ, ones_four]
  have h1 := ones_le 2 x
  have h2 := ones_le 2 (x / 4)
  rw [show x / 4 / 4 = x / 16 by omega]
  generalize S1 (2 * n) (x / 16) = p
  generalize ones 2 x = d0 at *
  generalize ones 2 (x / 4) = d1 at *
  rw [show (4 * (4 * p + d1) + d0) / 16 = p by omega]
  omega
theorem T2_digit (n x : Nat) : T2 n x % 16 ≤ 4 := by
  cases n with
  | zero => rw [T2_zero]; decide
  | succ n => rw [T2_succ]; have := ones_le 4 x; omega
/-- bytes -/
def S3 (n z : Nat) : Nat := (z / 16 + z) &&& R 8 15 n
def T3 (n x : Nat) : Nat := S3 n (T2 (2 * n) x)
theorem T3_zero (x : Nat) : T3 0 x = 0 := by simp [T3, S3, R]
theorem ones_eight (x : Nat) : ones 8 x = ones 4 x + ones 4 (x / 16) := ones_add 4 4 x
theorem T3_succ (n x : Nat) : T3 (n + 1) x = 256 * T3 n (x / 256) + ones 8 x := by
  unfold T3 S3
  rw [show 2 * (n + 1) = 2 * n + 1 + 1 by omega, T2_succ, T2_succ, and_R 8 15 n _ (by decide), ones_eight]
  have h1 := ones_le 4 x
  have h2 := ones_le 4 (x / 16)
  rw [show x / 16 / 16 = x / 256 by omega]
  have h3 := T2_digit (2 * n) (x / 256)
  generalize T2 (2 * n) (x / 256) = p at *
  generalize ones 4 x = d0 at *
  generalize ones 4 (x / 16) = d1 at *
  have e0 : (16 * (16 * p + d1) + d0) / 16 = 16 * p + d1 := by omega
  rw [e0]
  have e1 : (16 * p + d1 + (16 * (16 * p + d1) + d0)) / 2 ^ 8 = p / 16 + p := by omega
  have e2 : ((16 * p + d1 + (16 * (16 * p + d1) + d0)) % 2 ^ 8 &&& 15) = d0 + d1 := by
    have := Nat.and_two_pow_sub_one_eq_mod ((16 * p + d1 + (16 * (16 * p + d1) + d0)) % 2 ^ 8) 4
    simp only [show 2 ^ 4 - 1 = 15 by decide] at this
    rw [this]; omega
  rw [e1, e2]
theorem T3_eight (x : Nat) : ∃ c0 c1 c2 c3 c4 c5 c6 c7 : Nat, c0 ≤ 8 ∧ c1 ≤ 8 ∧ c2 ≤ 8 ∧ c3 ≤ 8 ∧ c4 ≤ 8 ∧ c5 ≤ 8 ∧ c6 ≤ 8 ∧ c7 ≤ 8 ∧
    T3 8 x = 256 * (256 * (256 * (256 * (256 * (256 * (256 * c7 + c6) + c5) + c4) + c3) + c2) + c1) + c0 ∧ c0 + c1 + c2 + c3 + c4 + c5 + c6 + c7 = ones 64 x := by
  refine ⟨ones 8 x, ones 8 (x / 256), ones 8 (x / 256 / 256), ones 8 (x / 256 / 256 / 256), ones 8 (x / 256 / 256 / 256 / 256), ones 8 (x / 256 / 256 / 256 / 256 / 256), ones 8 (x / 256 / 256 / 256 / 256 / 256 / 256), ones 8 (x / 256 / 256 / 256 / 256 / 256 / 256 / 256),
    ones_le 8 _, ones_le 8 _, ones_le 8 _, ones_le 8 _, ones_le 8 _, ones_le 8 _, ones_le 8 _, ones_le 8 _, ?_, ?_⟩
  · rw [T3_succ, T3_succ, T3_succ, T3_succ, T3_succ, T3_succ, T3_succ, T3_succ, T3_zero, Nat.mul_zero, Nat.zero_add]
  · have h := fun n y => ones_add 8 n y
    rw [show (64 : Nat) = 8 + 56 from rfl, h 56 x, show (56 : Nat) = 8 + 48 from rfl, h 48, show (48 : Nat) = 8 + 40 from rfl, h 40, show (40 : Nat) = 8 + 32 from rfl, h 32, show (32 : Nat) = 8 + 24 from rfl, h 24, show (24 : Nat) = 8 + 16 from rfl, h 16, show (16 : Nat) = 8 + 8 from rfl, h 8]
    simp only [show (2 : Nat) ^ 8 = 256 from rfl]
    omega

/-- the sum of the bytes -/
def F1 (z : Nat) : Nat := z + z / 256
def F2 (z : Nat) : Nat := z + z / 65536
def F3 (z : Nat) : Nat := z + z / 4294967296
theorem sum_bytes {c0 c1 c2 c3 c4 c5 c6 c7 z : Nat} (h0 : c0 ≤ 8) (h1 : c1 ≤ 8) (h2 : c2 ≤ 8) (h3 : c3 ≤ 8) (h4 : c4 ≤ 8) (h5 : c5 ≤ 8) (h6 : c6 ≤ 8) (h7 : c7 ≤ 8)
    (hz : z = 256 * (256 * (256 * (256 * (256 * (256 * (256 * c7 + c6) + c5) + c4) + c3) + c2) + c1) + c0) :
    F1 z < 18446744073709551616 ∧ F2 (F1 z) < 18446744073709551616 ∧ F3 (F2 (F1 z)) < 9223372036854775808 ∧ F3 (F2 (F1 z)) % 128 = c0 + c1 + c2 + c3 + c4 + c5 + c6 + c7 := by
  have e1 : F1 z = 256 * (256 * (256 * (256 * (256 * (256 * (256 * c7 + (c6 + c7)) + (c5 + c6)) + (c4 + c5)) + (c3 + c4)) + (c2 + c3)) + (c1 + c2)) + (c0 + c1) := by
    unfold F1; omega
  have e2 : F2 (F1 z) = 256 * (256 * (256 * (256 * (256 * (256 * (256 * c7 + (c6 + c7)) + (c5 + c6 + c7)) + (c4 + c5 + (c6 + c7))) + (c3 + c4 + (c5 + c6))) + (c2 + c3 + (c4 + c5))) + (c1 + c2 + (c3 + c4))) + (c0 + c1 + (c2 + c3)) := by
    rw [e1]; unfold F2; omega
  have key : ∀ b0 b1 b2 b3 b4 b5 b6 b7 : Nat, b0 ≤ 32 → b1 ≤ 32 → b2 ≤ 32 → b3 ≤ 32 → b4 ≤ 32 → b5 ≤ 32 → b6 ≤ 32 → b7 ≤ 32 →
      F3 (256 * (256 * (256 * (256 * (256 * (256 * (256 * b7 + b6) + b5) + b4) + b3) + b2) + b1) + b0) % 256 = b0 + b4 ∧
      F3 (256 * (256 * (256 * (256 * (256 * (256 * (256 * b7 + b6) + b5) + b4) + b3) + b2) + b1) + b0) < 9223372036854775808 := by
    intro b0 b1 b2 b3 b4 b5 b6 b7 g0 g1 g2 g3 g4 g5 g6 g7
    have hz : 256 * (256 * (256 * (256 * (256 * (256 * (256 * b7 + b6) + b5) + b4) + b3) + b2) + b1) + b0 = 4294967296 * (256 * (256 * (256 * b7 + b6) + b5) + b4) + (256 * (256 * (256 * b3 + b2) + b1) + b0) := by omega
    rw [hz]
    have hlo : 256 * (256 * (256 * b3 + b2) + b1) + b0 < 4294967296 := by omega
    have hq : (4294967296 * (256 * (256 * (256 * b7 + b6) + b5) + b4) + (256 * (256 * (256 * b3 + b2) + b1) + b0)) / 4294967296 = 256 * (256 * (256 * b7 + b6) + b5) + b4 := by
      generalize 256 * (256 * (256 * b7 + b6) + b5) + b4 = hi at *
      generalize 256 * (256 * (256 * b3 + b2) + b1) + b0 = lo at *
      omega
    unfold F3
    rw [hq]
    constructor <;> omega
  have e3 := key (c0 + c1 + (c2 + c3)) (c1 + c2 + (c3 + c4)) (c2 + c3 + (c4 + c5)) (c3 + c4 + (c5 + c6)) (c4 + c5 + (c6 + c7)) (c5 + c6 + c7) (c6 + c7) c7 (by omega) (by omega) (by omega) (by omega) (by omega) (by omega) (by omega) (by omega)
  rw [← e2] at e3
  obtain ⟨e3, e4⟩ := e3
  refine ⟨by omega, by omega, e4, by omega⟩

theorem ones_top (n x : Nat) : ones (n + 1) x = ones n x + x / 2 ^ n % 2 := by
  rw [ones_add n 1 x]
  simp [ones]
theorem ones_bits (a : Int) (y : Nat) : ∀ (n : Nat), (bitNums a y n).length = ones n y
  | 0 => rfl
  | n + 1 => by
    rw [bitNums_succ, List.length_append, ones_bits a y n, ones_top]
    split
    · simp; omega
    · simp; omega
end Go.Proofs.YtecfjjpdlohmnaaDoor.BitOnesP
