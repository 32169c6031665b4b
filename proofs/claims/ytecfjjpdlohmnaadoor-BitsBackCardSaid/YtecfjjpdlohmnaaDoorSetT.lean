/- Plain facts on sets by words of bits: a set is told by its numbers; what With does. -/
import Derived.Test.YtecfjjpdlohmnaaDoorSetWP
namespace Go.Proofs.YtecfjjpdlohmnaaDoor.SetT
open SetP SetO SetNum SetIn SetWith

/-- a set that may be -/
def MayW (s : List Wd) : Prop := (∀ x ∈ s, 0 ≤ x.1 ∧ x.1 < 16384 ∧ 0 < x.2 ∧ x.2 ≤ 18446744073709551615) ∧ s.Pairwise (fun x y => x.1 < y.1)
theorem MayW.win {s : List Wd} (h : MayW s) : ∀ x ∈ s, WdIn x := fun x hx => by
  obtain ⟨a, b, c, d⟩ := h.1 x hx
  exact ⟨a, b, by omega, d⟩
theorem MayW.tail {x : Wd} {s : List Wd} (h : MayW (x :: s)) : MayW s := ⟨fun y hy => h.1 y (by simp [hy]), (List.pairwise_cons.1 h.2).2⟩
theorem MayW.head {x : Wd} {s : List Wd} (h : MayW (x :: s)) : ∀ y ∈ s, x.1 < y.1 := (List.pairwise_cons.1 h.2).1
theorem mayw_nil : MayW [] := ⟨by simp, by simp⟩

/-- a bit of a word -/
def bitOf (y : Int) (k : Nat) : Bool := decide (y / ((2 ^ k : Nat) : Int) % 2 = 1)
theorem bitOf_testBit (y k : Nat) : bitOf (y : Int) k = y.testBit k := by
  unfold bitOf
  rw [Nat.testBit_eq_decide_div_mod_eq]
  have : (y : Int) / ((2 ^ k : Nat) : Int) % 2 = ((y / 2 ^ k % 2 : Nat) : Int) := by simp
  rw [this]
  simp only [decide_eq_decide]
  omega
theorem inS_cons (x : Wd) (s : List Wd) (n : Int) : inS (x :: s) n = if x.1 = n / 64 then bitOf x.2 (n % 64).toNat else inS s n := rfl

/-- no word at that place, no number -/
theorem inS_out : ∀ {s : List Wd} {n : Int}, (∀ x ∈ s, x.1 ≠ n / 64) → inS s n = false
  | [], _, _ => rfl
  | x :: s, n, h => by
    rw [inS_cons, if_neg (h x (by simp)), inS_out (fun y hy => h y (by simp [hy]))]

theorem two_words {a b : Nat} (ha : a < 2 ^ 64) (hb : b < 2 ^ 64) (h : ∀ k, k < 64 → a.testBit k = b.testBit k) : a = b := by
  refine Nat.eq_of_testBit_eq fun k => ?_
  by_cases hk : k < 64
  · exact h k hk
  · rw [Nat.testBit_lt_two_pow (Nat.lt_of_lt_of_le ha (Nat.pow_le_pow_right (by decide) (by omega))), Nat.testBit_lt_two_pow (Nat.lt_of_lt_of_le hb (Nat.pow_le_pow_right (by decide) (by omega)))]
theorem some_bit {y : Nat} (h0 : 0 < y) (h1 : y < 2 ^ 64) : ∃ k, k < 64 ∧ y.testBit k = true := by
  refine Classical.byContradiction fun hn => ?_
  have : y = 0 := two_words h1 (by decide) fun k hk => by
    rw [Nat.zero_testBit]
    cases hb : y.testBit k with
    | false => rfl
    | true => exact absurd ⟨k, hk, hb⟩ hn
  omega

/-- A SET IS TOLD BY ITS NUMBERS -/
theorem ext : ∀ {s t : List Wd}, MayW s → MayW t → (∀ n, 0 ≤ n → n < 1048576 → inS s n = inS t n) → s = t
  | [], [], _, _, _ => rfl
  | [], y :: t, _, ht, h => by
    exfalso
    obtain ⟨a, b, c, d⟩ := ht.1 y (by simp)
    obtain ⟨k, hk, hb⟩ := some_bit (y := y.2.toNat) (by omega) (by omega)
    have := h (64 * y.1 + k) (by omega) (by omega)
    rw [inS_cons, if_pos (by omega), show ((64 * y.1 + (k : Int)) % 64).toNat = k by omega] at this
    rw [show y.2 = (y.2.toNat : Int) by omega, bitOf_testBit, hb] at this
    cases this
  | x :: s, [], hs, _, h => by
    exfalso
    obtain ⟨a, b, c, d⟩ := hs.1 x (by simp)
    obtain ⟨k, hk, hb⟩ := some_bit (y := x.2.toNat) (by omega) (by omega)
    have := h (64 * x.1 + k) (by omega) (by omega)
    rw [inS_cons, if_pos (by omega), show ((64 * x.1 + (k : Int)) % 64).toNat = k by omega] at this
    rw [show x.2 = (x.2.toNat : Int) by omega, bitOf_testBit, hb] at this
    cases this
  | x :: s, y :: t, hs, ht, h => by
    obtain ⟨a, b, c, d⟩ := hs.1 x (by simp)
    obtain ⟨a', b', c', d'⟩ := ht.1 y (by simp)
    have hxy : x.1 = y.1 := by
      rcases Int.lt_trichotomy x.1 y.1 with hlt | he | hlt
      · exfalso
        obtain ⟨k, hk, hb⟩ := some_bit (y := x.2.toNat) (by omega) (by omega)
        have := h (64 * x.1 + k) (by omega) (by omega)
        rw [inS_cons, if_pos (by omega), show ((64 * x.1 + (k : Int)) % 64).toNat = k by omega, inS_out (s := y :: t)] at this
        · rw [show x.2 = (x.2.toNat : Int) by omega, bitOf_testBit, hb] at this
          cases this
        · intro z hz
          rcases List.mem_cons.1 hz with rfl | hz
          · omega
          · have := ht.head z hz; omega
      · exact he
      · exfalso
        obtain ⟨k, hk, hb⟩ := some_bit (y := y.2.toNat) (by omega) (by omega)
        have := h (64 * y.1 + k) (by omega) (by omega)
        rw [inS_cons (x := y), if_pos (by omega), show ((64 * y.1 + (k : Int)) % 64).toNat = k by omega, inS_out (s := x :: s)] at this
        · rw [show y.2 = (y.2.toNat : Int) by omega, bitOf_testBit, hb] at this
          cases this
        · intro z hz
          rcases List.mem_cons.1 hz with rfl | hz
          · omega
          · have := hs.head z hz; omega
    have hbits : x.2 = y.2 := by
      have : x.2.toNat = y.2.toNat := two_words (by omega) (by omega) fun k hk => by
        have := h (64 * x.1 + k) (by omega) (by omega)
        rw [inS_cons, if_pos (by omega), inS_cons, if_pos (by omega), show ((64 * x.1 + (k : Int)) % 64).toNat = k by omega] at this
        rw [show x.2 = (x.2.toNat : Int) by omega, show y.2 = (y.2.toNat : Int) by omega, bitOf_testBit, bitOf_testBit] at this
        exact this
      omega
    have ht2 : s = t := ext hs.tail ht.tail fun n h0 h1 => by
      by_cases hn : n / 64 = x.1
      · rw [inS_out (s := s) (fun z hz => by have := hs.head z hz; omega), inS_out (s := t) (fun z hz => by have := ht.head z hz; omega)]
      · have := h n h0 h1
        rw [inS_cons, if_neg (by omega), inS_cons, if_neg (by omega)] at this
        exact this
    rw [ht2, show x = y from Prod.ext hxy hbits]

/-! what With does -/

theorem add_bit {y k : Nat} (h : y.testBit k = false) (j : Nat) : (y + 2 ^ k).testBit j = (y.testBit j || decide (j = k)) := by
  rcases Nat.lt_trichotomy j k with hj | rfl | hj
  · rw [Nat.add_comm, Nat.testBit_two_pow_add_gt hj]
    simp [Nat.ne_of_lt hj]
  · rw [Nat.add_comm, Nat.testBit_two_pow_add_eq, h]; simp
  · have hq : (y + 2 ^ k) / 2 ^ (k + 1) = y / 2 ^ (k + 1) := by
      rw [Nat.testBit_eq_decide_div_mod_eq] at h
      simp only [decide_eq_false_iff_not] at h
      have h2 : y / 2 ^ k % 2 = 0 := by omega
      have hp : 0 < 2 ^ k := Nat.two_pow_pos k
      rw [Nat.pow_succ, ← Nat.div_div_eq_div_mul, ← Nat.div_div_eq_div_mul, Nat.add_div_right _ hp]
      omega
    have hd : ∀ z : Nat, z.testBit j = (z / 2 ^ (k + 1)).testBit (j - (k + 1)) := by
      intro z
      rw [Nat.testBit_div_two_pow]
      congr 1; omega
    rw [hd, hq, ← hd]
    simp [Nat.ne_of_gt hj]
theorem add_bit_lt {y k : Nat} (hk : k < 64) (hy : y < 2 ^ 64) (h : y.testBit k = false) : y + 2 ^ k < 2 ^ 64 := by
  refine Nat.lt_pow_two_of_testBit _ fun j hj => ?_
  rw [add_bit h, Nat.testBit_lt_two_pow (Nat.lt_of_lt_of_le hy (Nat.pow_le_pow_right (by decide) hj))]
  simp; omega

/-- a word put in among those that rise -/
def ins (a b : Int) : List Wd → List Wd
  | [] => [(a, b)]
  | x :: t => if x.1 = a then (x.1, x.2 + b) :: t else if a < x.1 then (a, b) :: x :: t else x :: ins a b t
/-- With's loop, and what stands behind it -/
def wend (a b : Int) (st : List Wd × Bool) : List Wd := if st.2 = true then st.1 else st.1 ++ [(a, b)]
theorem wfold_above (a b : Int) : ∀ (s : List Wd) (l : List Wd), (∀ x ∈ s, a < x.1) → s.foldl (wstep a b) (l, true) = (l ++ s, true)
  | [], l, _ => by simp
  | x :: s, l, h => by
    have hx := h x (by simp)
    rw [List.foldl_cons, wstep, if_neg (by omega), if_neg (by simp), wfold_above a b s _ (fun y hy => h y (by simp [hy]))]
    simp
theorem wfold_ins (a b : Int) : ∀ (s : List Wd) (l : List Wd), s.Pairwise (fun x y => x.1 < y.1) → wend a b (s.foldl (wstep a b) (l, false)) = l ++ ins a b s
  | [], l, _ => by simp [wend, ins]
  | x :: s, l, h => by
    have hh := (List.pairwise_cons.1 h).1
    have ht := (List.pairwise_cons.1 h).2
    rw [List.foldl_cons, wstep, ins]
    by_cases h1 : x.1 = a
    · rw [if_pos h1, if_pos h1, wfold_above a b s _ (fun y hy => by have := hh y hy; omega)]
      simp [wend]
    · rw [if_neg h1, if_neg h1]
      by_cases h2 : a < x.1
      · rw [if_pos ⟨h2, rfl⟩, if_pos h2, wfold_above a b s _ (fun y hy => by have := hh y hy; omega)]
        simp [wend]
      · rw [if_neg (fun e => h2 e.1), if_neg h2, wfold_ins a b s _ ht]
        simp
theorem withS_eq {s : List Wd} (h : MayW s) (n : Int) : withS s n = if inS s n = true then s else ins (n / 64) ((2 ^ (n % 64).toNat : Nat) : Int) s := by
  unfold withS
  split
  · rfl
  · have := wfold_ins (n / 64) ((2 ^ (n % 64).toNat : Nat) : Int) s [] h.2
    rw [List.nil_append] at this
    rw [← this]; rfl

theorem ins_mem (a b : Int) : ∀ (s : List Wd) (y : Wd), y ∈ ins a b s → y = (a, b) ∨ y ∈ s ∨ (∃ x ∈ s, x.1 = a ∧ y = (x.1, x.2 + b))
  | [], y, h => by simp [ins] at h; exact .inl h
  | x :: s, y, h => by
    rw [ins] at h
    split at h
    · rename_i h1
      rcases List.mem_cons.1 h with rfl | h
      · exact .inr (.inr ⟨x, by simp, h1, rfl⟩)
      · exact .inr (.inl (by simp [h]))
    · split at h
      · rcases List.mem_cons.1 h with rfl | h
        · exact .inl rfl
        · exact .inr (.inl h)
      · rcases List.mem_cons.1 h with rfl | h
        · exact .inr (.inl (by simp))
        · rcases ins_mem a b s y h with h | h | ⟨z, hz, h⟩
          · exact .inl h
          · exact .inr (.inl (by simp [h]))
          · exact .inr (.inr ⟨z, by simp [hz], h⟩)
theorem ins_first (a b : Int) (s : List Wd) (y : Wd) (h : y ∈ ins a b s) : y.1 = a ∨ y ∈ s := by
  rcases ins_mem a b s y h with rfl | h | ⟨x, hx, h1, rfl⟩
  · exact .inl rfl
  · exact .inr h
  · exact .inl h1
theorem ins_rise (a b : Int) : ∀ (s : List Wd), s.Pairwise (fun x y => x.1 < y.1) → (ins a b s).Pairwise (fun x y => x.1 < y.1)
  | [], _ => by simp [ins]
  | x :: s, h => by
    have hh := (List.pairwise_cons.1 h).1
    have ht := (List.pairwise_cons.1 h).2
    rw [ins]
    split
    · exact List.pairwise_cons.2 ⟨hh, ht⟩
    · split
      · rename_i h1 h2
        refine List.pairwise_cons.2 ⟨fun y hy => ?_, h⟩
        rcases List.mem_cons.1 hy with rfl | hy
        · exact h2
        · have := hh y hy; show a < y.1; omega
      · rename_i h1 h2
        refine List.pairwise_cons.2 ⟨fun y hy => ?_, ins_rise a b s ht⟩
        rcases ins_first a b s y hy with h | h
        · omega
        · exact hh y h

theorem inS_at {s : List Wd} {n : Int} : MayW s → inS s n = false → ∀ x ∈ s, x.1 = n / 64 → bitOf x.2 (n % 64).toNat = false := by
  induction s with
  | nil => intro _ _ x hx; cases hx
  | cons x s ih =>
    intro hm hf y hy he
    rw [inS_cons] at hf
    rcases List.mem_cons.1 hy with rfl | hy
    · rw [if_pos he] at hf; exact hf
    · have := hm.head y hy
      rw [if_neg (by omega)] at hf
      exact ih hm.tail hf y hy he

theorem word_fits {y : Int} {k : Nat} (hk : k < 64) (h0 : 0 ≤ y) (h1 : y ≤ 18446744073709551615) (hb : bitOf y k = false) : y + ((2 ^ k : Nat) : Int) ≤ 18446744073709551615 := by
  rw [show y = (y.toNat : Int) by omega, bitOf_testBit] at hb
  have := add_bit_lt hk (y := y.toNat) (by omega) hb
  have e : (2 : Nat) ^ 64 = 18446744073709551616 := by decide
  omega
theorem fits_of {s : List Wd} {n : Int} (hm : MayW s) (hf : inS s n = false) : Fits s n := by
  intro i hi he
  obtain ⟨a, b, c, d⟩ := hm.1 s[i] (List.getElem_mem hi)
  exact word_fits (by omega) (by omega) d (inS_at hm hf s[i] (List.getElem_mem hi) he)

theorem ins_may {s : List Wd} {n : Int} (h0 : 0 ≤ n) (h1 : n < 1048576) (hm : MayW s) (hf : inS s n = false) : MayW (ins (n / 64) ((2 ^ (n % 64).toNat : Nat) : Int) s) := by
  have hp : 0 < 2 ^ (n % 64).toNat := Nat.two_pow_pos _
  have hp2 := pow_lt (k := (n % 64).toNat) (by omega)
  refine ⟨fun y hy => ?_, ins_rise _ _ _ hm.2⟩
  rcases ins_mem _ _ _ _ hy with rfl | hy | ⟨x, hx, h2, rfl⟩
  · generalize 2 ^ (n % 64).toNat = p at *
    exact ⟨by simp only; omega, by simp only; omega, by simp only; omega, by simp only; omega⟩
  · exact hm.1 y hy
  · obtain ⟨a, b, c, d⟩ := hm.1 x hx
    have := word_fits (k := (n % 64).toNat) (by omega) (by omega) d (inS_at hm hf x hx h2)
    exact ⟨a, b, by simp only; omega, this⟩

theorem bit_add {y : Int} {k j : Nat} (h0 : 0 ≤ y) (hb : bitOf y k = false) : bitOf (y + ((2 ^ k : Nat) : Int)) j = (bitOf y j || decide (j = k)) := by
  rw [show y = (y.toNat : Int) by omega] at hb ⊢
  rw [bitOf_testBit] at hb
  rw [show ((y.toNat : Int) + ((2 ^ k : Nat) : Int)) = ((y.toNat + 2 ^ k : Nat) : Int) by omega, bitOf_testBit, bitOf_testBit, add_bit hb]
theorem bit_one {k j : Nat} : bitOf ((2 ^ k : Nat) : Int) j = decide (j = k) := by
  have h := bit_add (y := 0) (k := k) (j := j) (by omega) (by simp [bitOf])
  simpa [bitOf] using h

theorem inS_ins {n m : Int} (h0 : 0 ≤ n) (hm0 : 0 ≤ m) : ∀ {s : List Wd}, MayW s → inS s n = false → inS (ins (n / 64) ((2 ^ (n % 64).toNat : Nat) : Int) s) m = (inS s m || decide (m = n))
  | [], _, _ => by
    rw [ins, inS_cons]
    simp only [inS]
    rw [bit_one]
    by_cases h1 : n / 64 = m / 64
    · rw [if_pos h1]; simp only [Bool.false_or, decide_eq_decide]; omega
    · rw [if_neg h1]; simp; omega
  | x :: s, hm, hf => by
    rw [ins]
    obtain ⟨a, b, c, d⟩ := hm.1 x (by simp)
    by_cases h1 : x.1 = n / 64
    · rw [if_pos h1, inS_cons, inS_cons]
      have hb := inS_at hm hf x (by simp) h1
      by_cases h2 : x.1 = m / 64
      · rw [if_pos h2, if_pos h2, bit_add (by omega) hb]
        congr 1; simp only [decide_eq_decide]; omega
      · rw [if_neg h2, if_neg h2]
        simp; omega
    · rw [if_neg h1]
      by_cases h2 : n / 64 < x.1
      · rw [if_pos h2, inS_cons (x := (n / 64, _))]
        simp only
        rw [bit_one]
        by_cases h3 : n / 64 = m / 64
        · rw [if_pos h3]
          rw [inS_out (s := x :: s) (n := m) (fun y hy => by
            rcases List.mem_cons.1 hy with rfl | hy
            · omega
            · have := hm.head y hy; omega)]
          simp only [Bool.false_or, decide_eq_decide]; omega
        · rw [if_neg h3]; simp; omega
      · rw [if_neg h2, inS_cons, inS_cons]
        by_cases h3 : x.1 = m / 64
        · rw [if_pos h3, if_pos h3]; simp; omega
        · rw [if_neg h3, if_neg h3]
          rw [inS_cons, if_neg h1] at hf
          exact inS_ins h0 hm0 hm.tail hf

/-- WHAT WITH ANSWERS -/
theorem with_may {s : List Wd} {n : Int} (h0 : 0 ≤ n) (h1 : n < 1048576) (hm : MayW s) : MayW (withS s n) := by
  rw [withS_eq hm]
  cases hf : inS s n
  · exact ins_may h0 h1 hm hf
  · exact hm
theorem inS_with {s : List Wd} {n m : Int} (h0 : 0 ≤ n) (hm0 : 0 ≤ m) (hm : MayW s) : inS (withS s n) m = (inS s m || decide (m = n)) := by
  rw [withS_eq hm]
  cases hf : inS s n
  · exact inS_ins h0 hm0 hm hf
  · rw [if_pos rfl]
    by_cases h : m = n
    · rw [h, hf]; simp
    · simp [h]
end Go.Proofs.YtecfjjpdlohmnaaDoor.SetT
