/- Plain facts: the numbers of a set. -/
import Derived.Test.YtecfjjpdlohmnaaDoorSetV
namespace Go.Proofs.YtecfjjpdlohmnaaDoor.SetG
open Go.RowKit Go.Lib SetP SetO SetNum SetIn SetWith SetT SetW2

theorem mem_bitNums {a : Int} {y K : Nat} {n : Int} : n ∈ bitNums a y K ↔ ∃ k : Nat, k < K ∧ y / 2 ^ k % 2 = 1 ∧ n = 64 * a + k := by
  unfold bitNums
  simp only [List.mem_map, List.mem_filter, List.mem_range, decide_eq_true_eq]
  constructor
  · rintro ⟨k, ⟨h1, h2⟩, rfl⟩; exact ⟨k, h1, h2, rfl⟩
  · rintro ⟨k, h1, h2, rfl⟩; exact ⟨k, ⟨h1, h2⟩, rfl⟩
theorem bit_iff {y : Int} (h0 : 0 ≤ y) (k : Nat) : bitOf y k = true ↔ y.toNat / 2 ^ k % 2 = 1 := by
  obtain ⟨m, rfl⟩ := Int.eq_ofNat_of_zero_le h0
  rw [bitOf_testBit, Nat.testBit_eq_decide_div_mod_eq]
  simp
theorem mem_numbers : ∀ {s : List Wd}, MayW s → ∀ (n : Int), n ∈ numbers s ↔ 0 ≤ n ∧ n < 1048576 ∧ inS s n = true
  | [], _, n => by simp [numbers, inS]
  | x :: s, hm, n => by
    obtain ⟨a, b, c, d⟩ := hm.1 x (by simp)
    have ih := mem_numbers hm.tail n
    have hd : numbers (x :: s) = bitNums x.1 x.2.toNat 64 ++ numbers s := by simp [numbers]
    rw [hd, List.mem_append, mem_bitNums, ih, inS_cons]
    by_cases h1 : x.1 = n / 64
    · rw [if_pos h1, bit_iff (by omega)]
      constructor
      · rintro (⟨k, hk, h2, rfl⟩ | ⟨h2, h3, h4⟩)
        · refine ⟨by omega, by omega, ?_⟩
          rw [show ((64 * x.1 + (k : Int)) % 64).toNat = k by omega]; exact h2
        · exfalso
          rw [inS_out (fun y hy => by have := hm.head y hy; omega)] at h4
          cases h4
      · rintro ⟨h2, h3, h4⟩
        exact .inl ⟨(n % 64).toNat, by omega, h4, by omega⟩
    · rw [if_neg h1]
      constructor
      · rintro (⟨k, hk, h2, rfl⟩ | h)
        · omega
        · exact h
      · exact .inr
theorem numbers_in {s : List Wd} (hm : MayW s) : ∀ n ∈ numbers s, 0 ≤ n ∧ n < 1048576 := fun n hn => by
  have := (mem_numbers hm n).1 hn
  exact ⟨this.1, this.2.1⟩

end Go.Proofs.YtecfjjpdlohmnaaDoor.SetG
