/- Walk over math/bits.TrailingZeros64; and what taking the lowest bit out of a word does to its numbers. -/
import Derived.Test.YtecfjjpdlohmnaaDoorSetO
import Derived.Shelf.Spec.TrailingZeros
namespace Go.Proofs.YtecfjjpdlohmnaaDoor.BitTz
open Go.RowKit Go.Lib SetP SetO

/-- the library's table, as its initialiser lays it -/
def Tab (w : World) : Prop := TabAt 0 Lib.deBruijn64tab w
theorem tab_on {g : Nat} {tab : List Nat} {w w1 : World} (h : TabAt g tab w) (hb : Below w.heap.size w w1) : TabAt g tab w1 := by
  intro j hj
  have h1 := h j hj
  rw [hb.cell (p := ⟨g, j, none⟩) (World.block_lt_of_cell? w _ h1)]
  exact h1
theorem Tab.on {w w1 : World} (h : Tab w) (hb : Below w.heap.size w w1) : Tab w1 := tab_on h hb

set_option maxHeartbeats 1000000 in
theorem tz_core (x k idx : Nat) (w : World) (hx0 : ((x : Int) == 0) = false)
    (key : IntKind.u64.wrap (bits BinOp.and IntKind.u64 (x : Int) (IntKind.u64.wrap (-(x : Int))) * 285870213051353865) / 288230376151711744 = (idx : Int))
    (hi : idx < 64) (hk : k < 64) (hcell : w.cell? ⟨0, idx, none⟩ = some (.int .u8 k)) :
    Calls Tryd.prog 41 #[.int .u64 x] w fun e w' => e = .returned (.int .i64 k) ∧ w = w' := by
  go_enter Tryd.func41, Tryd.ntmps41
  go_wp2_with (simp only [key])
  go_ret
  exact ⟨rfl, rfl⟩
theorem tz_calls (x : Nat) (hx : x < 18446744073709551616) (hx0 : x ≠ 0) (w : World) (hT : Tab w) :
    Calls Tryd.prog 41 #[.int .u64 (x : Int)] w fun e w' => e = .returned (.int .i64 (ctz 64 x : Nat)) ∧ w = w' := by
  obtain ⟨hlow, hk⟩ := Lib.lowest_bit 64 x hx0 hx
  obtain ⟨hi, htab⟩ := Lib.deBruijn64_at _ hk
  have hcell := hT _ hi
  rw [htab] at hcell
  exact tz_core x _ _ w (by simp; omega) (tz64_key x _ hx hx0 hlow) hi hk hcell

/-- the numbers of a word, by its bits -/
def listB (a : Int) (y : Nat) (l : List Nat) : List Int := (l.filter fun n => y.testBit n).map fun (n : Nat) => 64 * a + (n : Int)
theorem bitNums_list (a : Int) (y : Nat) : bitNums a y 64 = listB a y (List.range 64) := by
  unfold bitNums listB
  congr 1
  apply List.filter_congr
  intro n _
  rw [Nat.testBit_eq_decide_div_mod_eq]
theorem listB_congr {a : Int} {y z : Nat} {l : List Nat} (h : ∀ n ∈ l, y.testBit n = z.testBit n) : listB a y l = listB a z l := by
  unfold listB
  rw [List.filter_congr h]
theorem listB_none {a : Int} {y : Nat} {l : List Nat} (h : ∀ n ∈ l, y.testBit n = false) : listB a y l = [] := by
  unfold listB
  rw [List.filter_eq_nil_iff.2 (fun n hn => by rw [h n hn]; decide)]
  rfl
theorem range_cut {t : Nat} (h : t < 64) : List.range 64 = List.range t ++ t :: (List.range (63 - t)).map fun n => n + (t + 1) := by
  have e : (64 : Nat) = t + 1 + (63 - t) := by omega
  conv => lhs; rw [e, List.range_add, List.range_succ]
  rw [List.append_assoc]
  congr 1
  rw [List.singleton_append]
  congr 1
  apply List.map_congr_left
  intro n _
  omega

/-- THE LOWEST BIT OUT -/
theorem low_out {a : Int} {y : Nat} (hy : y < 2 ^ 64) (h0 : y ≠ 0) :
    bitNums a y 64 = (64 * a + ((ctz 64 y : Nat) : Int)) :: bitNums a (y &&& (y - 1)) 64 ∧ ctz 64 y < 64 := by
  obtain ⟨m, hm, ht⟩ := ctzFrom_spec 64 y (by omega) hy
  have hc : ctz 64 y = ctzFrom 64 y := by unfold ctz; rw [if_neg h0]
  rw [hc]
  generalize ctzFrom 64 y = t at *
  have hp : 0 < 2 ^ t := Nat.two_pow_pos t
  have hand : y &&& (y - 1) = 2 ^ t * (2 * m) := by
    have e1 : y = 2 ^ t * (2 * m + 1) + 0 := by omega
    have e2 : y - 1 = 2 ^ t * (2 * m) + (2 ^ t - 1) := by rw [hm, Nat.mul_add]; omega
    have e3 : (2 * m + 1) &&& (2 * m) = 2 * m := by
      refine Nat.eq_of_testBit_eq fun j => ?_
      rw [Nat.testBit_and]
      cases j with
      | zero => simp
      | succ j =>
        rw [Nat.testBit_succ, Nat.testBit_succ, show (2 * m + 1) / 2 = m by omega, show 2 * m / 2 = m by omega, Bool.and_self]
    refine Nat.eq_of_testBit_eq fun j => ?_
    have b1 : y.testBit j = if j < t then (0 : Nat).testBit j else (2 * m + 1).testBit (j - t) := by
      conv => lhs; rw [e1]
      exact Nat.testBit_two_pow_mul_add _ hp j
    have b2 : (y - 1).testBit j = if j < t then (2 ^ t - 1).testBit j else (2 * m).testBit (j - t) := by
      conv => lhs; rw [e2]
      exact Nat.testBit_two_pow_mul_add _ (by omega) j
    have b3 : (2 ^ t * (2 * m)).testBit j = if j < t then (0 : Nat).testBit j else (2 * m).testBit (j - t) := by
      have := Nat.testBit_two_pow_mul_add (2 * m) hp j
      rwa [Nat.add_zero] at this
    rw [Nat.testBit_and, b1, b2, b3]
    split
    · simp
    · rw [← Nat.testBit_and, e3]
  have hlow : ∀ n, n < t → y.testBit n = false ∧ (y &&& (y - 1)).testBit n = false := by
    intro n hn
    rw [hand, hm, show 2 ^ t * (2 * m + 1) = 2 ^ t * (2 * m + 1) + 0 by omega, show 2 ^ t * (2 * m) = 2 ^ t * (2 * m) + 0 by omega, Nat.testBit_two_pow_mul_add _ hp, Nat.testBit_two_pow_mul_add _ hp, if_pos hn, if_pos hn]
    simp
  have hat : y.testBit t = true ∧ (y &&& (y - 1)).testBit t = false := by
    rw [hand, hm, show 2 ^ t * (2 * m + 1) = 2 ^ t * (2 * m + 1) + 0 by omega, show 2 ^ t * (2 * m) = 2 ^ t * (2 * m) + 0 by omega, Nat.testBit_two_pow_mul_add _ hp, Nat.testBit_two_pow_mul_add _ hp, if_neg (by omega), if_neg (by omega), Nat.sub_self]
    simp
  have hup : ∀ n, t < n → (y &&& (y - 1)).testBit n = y.testBit n := by
    intro n hn
    obtain ⟨j, hj⟩ : ∃ j, n - t = j + 1 := ⟨n - t - 1, by omega⟩
    rw [hand]
    conv => rhs; rw [hm, show 2 ^ t * (2 * m + 1) = 2 ^ t * (2 * m + 1) + 0 by omega]
    rw [show 2 ^ t * (2 * m) = 2 ^ t * (2 * m) + 0 by omega, Nat.testBit_two_pow_mul_add _ hp, Nat.testBit_two_pow_mul_add _ hp, if_neg (by omega), if_neg (by omega), hj, Nat.testBit_succ, Nat.testBit_succ, show (2 * m + 1) / 2 = m by omega, show 2 * m / 2 = m by omega]
  refine ⟨?_, ht⟩
  rw [bitNums_list, bitNums_list, range_cut ht]
  have app : ∀ (z : Nat) (l r : List Nat), listB a z (l ++ r) = listB a z l ++ listB a z r := by
    intro z l r; unfold listB; rw [List.filter_append, List.map_append]
  have cons : ∀ (z n : Nat) (r : List Nat), listB a z (n :: r) = (if z.testBit n then [64 * a + (n : Int)] else []) ++ listB a z r := by
    intro z n r; unfold listB; rw [List.filter_cons]; split <;> simp
  rw [app, app, cons, cons, listB_none (fun n hn => (hlow n (List.mem_range.1 hn)).1), listB_none (fun n hn => (hlow n (List.mem_range.1 hn)).2), hat.1, hat.2]
  simp only [if_true, Bool.false_eq_true, if_false, List.nil_append, List.singleton_append]
  congr 1
  refine listB_congr fun n hn => ?_
  obtain ⟨k, _, rfl⟩ := List.mem_map.1 hn
  exact (hup _ (by omega)).symm
theorem bitNums_zero (a : Int) : bitNums a 0 64 = [] := by
  rw [bitNums_list]; exact listB_none fun n _ => by simp
end Go.Proofs.YtecfjjpdlohmnaaDoor.BitTz
