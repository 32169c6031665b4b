/- Walks over fescueref02.bit and In. Walk over fescueref02.May. Walk over fescueref02.Numbers. Walks over fescueref02.Same and SameInts. Plain facts: what fescueref02.With answers. Plain facts on sets by words of bits: a set is told by its numbers; what With does. Plain facts: how sets that lie in memory are appended; how many words. Walk over fescueref02.May, whole. Walk over bits.Check. Plain facts: a set with all of a list. Plain facts: the words of a list of numbers; and a walk over bits.may. Walk over bits.Of. Plain facts: the numbers of a set. Walks over fescueref02.Check, List, Size, Has. Walks over bits.Has and bits.Same. -/
import Derived.Test.YtpejpnffcepdlaaGreatDoorZSetPToSetO
import Derived.Deep.LoopGhost
import Derived.Deep.QuietTactic
import Derived.BigQuiet
import Derived.Laws.StructEq
import Derived.Laws.Bits64b
import Derived.RegionTactic
import Derived.IntWalk
import Derived.Laws.MakeOwn
namespace Go.Proofs.YtpejpnffcepdlaaGreatDoor.SetIn
open Go.RowKit Go.Lib SetP

theorem pow_lt {k : Nat} (h : k ≤ 63) : 2 ^ k ≤ 9223372036854775808 := by
 have := Nat.pow_le_pow_right (n := 2) (by decide) h
 have e : (2 : Nat) ^ 63 = 9223372036854775808 := by decide
 omega


/-- is n in the set? -/
def inS : List Wd → Int → Bool
 | [], _ => false
 | x :: t, n => if x.1 = n / 64 then decide (x.2 / ((2 ^ (n % 64).toNat : Nat) : Int) % 2 = 1) else inS t n
theorem inS_skip {s : List Wd} {n : Int} : ∀ {k : Nat}, (∀ j (h : j < s.length), j < k → s[j].1 ≠ n / 64) → inS s n = inS (s.drop k) n := by
 intro k
 induction k generalizing s with
 | zero => intro _; rfl
 | succ k ih =>
  intro h
  cases s with
  | nil => rfl
  | cons x t =>
   rw [List.drop_succ_cons, ← ih (s := t) (fun j hj hk => h (j + 1) (by simpa using hj) (by omega))]
   have := h 0 (by simp) (by omega)
   simp only [List.getElem_cons_zero] at this
   rw [inS, if_neg this]
theorem inS_hit {s : List Wd} {n : Int} {k : Nat} (hk : k < s.length) (h : ∀ j (h : j < s.length), j < k → s[j].1 ≠ n / 64) (hh : s[k].1 = n / 64) :
  inS s n = decide (s[k].2 / ((2 ^ (n % 64).toNat : Nat) : Int) % 2 = 1) := by
 rw [inS_skip h, List.drop_eq_getElem_cons hk, inS, if_pos hh]
theorem inS_none {s : List Wd} {n : Int} (h : ∀ j (h : j < s.length), s[j].1 ≠ n / 64) : inS s n = false := by
 rw [inS_skip (k := s.length) (fun j hj _ => h j hj), List.drop_length, inS]

end Go.Proofs.YtpejpnffcepdlaaGreatDoor.SetIn
namespace Go.Proofs.YtpejpnffcepdlaaGreatDoor.SetMay
open Go.RowKit Go.Lib SetP

end Go.Proofs.YtpejpnffcepdlaaGreatDoor.SetMay
namespace Go.Proofs.YtpejpnffcepdlaaGreatDoor.SetNum
open Go.RowKit Go.Lib SetP SetO

/-- words within the limits -/
def WdIn (x : Wd) : Prop := 0 ≤ x.1 ∧ x.1 < 16384 ∧ 0 ≤ x.2 ∧ x.2 ≤ 18446744073709551615

/-- what is answered: a slice of the call's own, that owns these numbers -/
def OwnI (l : List Int) (w : World) (e : Ending) (w' : World) : Prop := ∃ u n, e = .returned u ∧ w'.ownsRow w.heap.size 3 1 u n (intVals l) ∧ Below w.heap.size w w'

end Go.Proofs.YtpejpnffcepdlaaGreatDoor.SetNum
namespace Go.Proofs.YtpejpnffcepdlaaGreatDoor.SetSame
open Go.RowKit Go.Lib SetP

end Go.Proofs.YtpejpnffcepdlaaGreatDoor.SetSame
namespace Go.Proofs.YtpejpnffcepdlaaGreatDoor.SetWith
open Go.RowKit Go.Lib SetP SetO SetNum SetIn

/-- a round of With's loop -/
def wstep (a b : Int) (st : List Wd × Bool) (x : Wd) : List Wd × Bool :=
 if x.1 = a then (st.1 ++ [(x.1, x.2 + b)], true)
 else if a < x.1 ∧ st.2 = false then (st.1 ++ [(a, b), x], true)
 else (st.1 ++ [x], st.2)
def wfold (a b : Int) (s : List Wd) : List Wd × Bool := s.foldl (wstep a b) ([], false)
/-- what With answers -/
def withS (s : List Wd) (n : Int) : List Wd :=
 if inS s n = true then s
 else
  let st := wfold (n / 64) ((2 ^ (n % 64).toNat : Nat) : Int) s
  if st.2 = true then st.1 else st.1 ++ [(n / 64, ((2 ^ (n % 64).toNat : Nat) : Int))]
end Go.Proofs.YtpejpnffcepdlaaGreatDoor.SetWith
namespace Go.Proofs.YtpejpnffcepdlaaGreatDoor.SetT
open SetP SetO SetNum SetIn SetWith

/-- a set that may be -/
def MayW (s : List Wd) : Prop := (∀ x ∈ s, 0 ≤ x.1 ∧ x.1 < 16384 ∧ 0 < x.2 ∧ x.2 ≤ 18446744073709551615) ∧ s.Pairwise (fun x y => x.1 < y.1)
theorem MayW.win {s : List Wd} (h : MayW s) : ∀ x ∈ s, WdIn x := fun x hx => by
 obtain ⟨a, b, c, d⟩ := h.1 x hx
 exact ⟨a, b, by omega, d⟩
theorem MayW.tail {x : Wd} {s : List Wd} (h : MayW (x :: s)) : MayW s := ⟨fun y hy => h.1 y (by simp [hy]), (List.pairwise_cons.1 h.2).2⟩
theorem MayW.head {x : Wd} {s : List Wd} (h : MayW (x :: s)) : ∀ y ∈ s, x.1 < y.1 := (List.pairwise_cons.1 h.2).1
theorem mayw_nil : MayW [] := ⟨by simp, by simp⟩

/-- a bit of a word -/
def bitOf (y : Int) (k : Nat) : Bool := decide (y / ((2 ^ k : Nat) : Int) % 2 = 1)
theorem bitOf_testBit (y k : Nat) : bitOf (y : Int) k = y.testBit k := by
 unfold bitOf
 rw [Nat.testBit_eq_decide_div_mod_eq]
 have : (y : Int) / ((2 ^ k : Nat) : Int) % 2 = ((y / 2 ^ k % 2 : Nat) : Int) := by simp
 rw [this]
 simp only [decide_eq_decide]
 omega
theorem inS_cons (x : Wd) (s : List Wd) (n : Int) : inS (x :: s) n = if x.1 = n / 64 then bitOf x.2 (n % 64).toNat else inS s n := rfl

/-- no word at that place, no number -/
theorem inS_out : ∀ {s : List Wd} {n : Int}, (∀ x ∈ s, x.1 ≠ n / 64) → inS s n = false
 | [], _, _ => rfl
 | x :: s, n, h => by
  rw [inS_cons, if_neg (h x (by simp)), inS_out (fun y hy => h y (by simp [hy]))]

theorem two_words {a b : Nat} (ha : a < 2 ^ 64) (hb : b < 2 ^ 64) (h : ∀ k, k < 64 → a.testBit k = b.testBit k) : a = b := by
 refine Nat.eq_of_testBit_eq fun k => ?_
 by_cases hk : k < 64
 ·exact h k hk
 ·rw [Nat.testBit_lt_two_pow (Nat.lt_of_lt_of_le ha (Nat.pow_le_pow_right (by decide) (by omega))), Nat.testBit_lt_two_pow (Nat.lt_of_lt_of_le hb (Nat.pow_le_pow_right (by decide) (by omega)))]
theorem some_bit {y : Nat} (h0 : 0 < y) (h1 : y < 2 ^ 64) : ∃ k, k < 64 ∧ y.testBit k = true := by
 refine Classical.byContradiction fun hn => ?_
 have : y = 0 := two_words h1 (by decide) fun k hk => by
  rw [Nat.zero_testBit]
  cases hb : y.testBit k with
  | false => rfl
  | true => exact absurd ⟨k, hk, hb⟩ hn
 omega

/-- A SET IS TOLD BY ITS NUMBERS -/
theorem ext : ∀ {s t : List Wd}, MayW s → MayW t → (∀ n, 0 ≤ n → n < 1048576 → inS s n = inS t n) → s = t
 | [], [], _, _, _ => rfl
 | [], y :: t, _, ht, h => by
  exfalso
  obtain ⟨a, b, c, d⟩ := ht.1 y (by simp)
  obtain ⟨k, hk, hb⟩ := some_bit (y := y.2.toNat) (by omega) (by omega)
  have := h (64 * y.1 + k) (by omega) (by omega)
  rw [inS_cons, if_pos (by omega), show ((64 * y.1 + (k : Int)) % 64).toNat = k by omega] at this
  rw [show y.2 = (y.2.toNat : Int) by omega, bitOf_testBit, hb] at this
  cases this
 | x :: s, [], hs, _, h => by
  exfalso
  obtain ⟨a, b, c, d⟩ := hs.1 x (by simp)
  obtain ⟨k, hk, hb⟩ := some_bit (y := x.2.toNat) (by omega) (by omega)
  have := h (64 * x.1 + k) (by omega) (by omega)
  rw [inS_cons, if_pos (by omega), show ((64 * x.1 + (k : Int)) % 64).toNat = k by omega] at this
  rw [show x.2 = (x.2.toNat : Int) by omega, bitOf_testBit, hb] at this
  cases this
 | x :: s, y :: t, hs, ht, h => by
  obtain ⟨a, b, c, d⟩ := hs.1 x (by simp)
  obtain ⟨a', b', c', d'⟩ := ht.1 y (by simp)
  have hxy : x.1 = y.1 := by
   rcases Int.lt_trichotomy x.1 y.1 with hlt | he | hlt
   ·exfalso
    obtain ⟨k, hk, hb⟩ := some_bit (y := x.2.toNat) (by omega) (by omega)
    have := h (64 * x.1 + k) (by omega) (by omega)
    rw [inS_cons, if_pos (by omega), show ((64 * x.1 + (k : Int)) % 64).toNat = k by omega, inS_out (s := y :: t)] at this
    ·rw [show x.2 = (x.2.toNat : Int) by omega, bitOf_testBit, hb] at this
     cases this
    ·intro z hz
     rcases List.mem_cons.1 hz with rfl | hz
     ·omega
     ·have := ht.head z hz; omega
   ·exact he
   ·exfalso
    obtain ⟨k, hk, hb⟩ := some_bit (y := y.2.toNat) (by omega) (by omega)
    have := h (64 * y.1 + k) (by omega) (by omega)
    rw [inS_cons (x := y), if_pos (by omega), show ((64 * y.1 + (k : Int)) % 64).toNat = k by omega, inS_out (s := x :: s)] at this
    ·rw [show y.2 = (y.2.toNat : Int) by omega, bitOf_testBit, hb] at this
     cases this
    ·intro z hz
     rcases List.mem_cons.1 hz with rfl | hz
     ·omega
     ·have := hs.head z hz; omega
  have hbits : x.2 = y.2 := by
   have : x.2.toNat = y.2.toNat := two_words (by omega) (by omega) fun k hk => by
    have := h (64 * x.1 + k) (by omega) (by omega)
    rw [inS_cons, if_pos (by omega), inS_cons, if_pos (by omega), show ((64 * x.1 + (k : Int)) % 64).toNat = k by omega] at this
    rw [show x.2 = (x.2.toNat : Int) by omega, show y.2 = (y.2.toNat : Int) by omega, bitOf_testBit, bitOf_testBit] at this
    exact this
   omega
  have ht2 : s = t := ext hs.tail ht.tail fun n h0 h1 => by
   by_cases hn : n / 64 = x.1
   ·rw [inS_out (s := s) (fun z hz => by have := hs.head z hz; omega), inS_out (s := t) (fun z hz => by have := ht.head z hz; omega)]
   ·have := h n h0 h1
    rw [inS_cons, if_neg (by omega), inS_cons, if_neg (by omega)] at this
    exact this
  rw [ht2, show x = y from Prod.ext hxy hbits]

/-! what With does -/

theorem add_bit {y k : Nat} (h : y.testBit k = false) (j : Nat) : (y + 2 ^ k).testBit j = (y.testBit j || decide (j = k)) := by
 rcases Nat.lt_trichotomy j k with hj | rfl | hj
 ·rw [Nat.add_comm, Nat.testBit_two_pow_add_gt hj]
  simp [Nat.ne_of_lt hj]
 ·rw [Nat.add_comm, Nat.testBit_two_pow_add_eq, h]; simp
 ·have hq : (y + 2 ^ k) / 2 ^ (k + 1) = y / 2 ^ (k + 1) := by
   rw [Nat.testBit_eq_decide_div_mod_eq] at h
   simp only [decide_eq_false_iff_not] at h
   have h2 : y / 2 ^ k % 2 = 0 := by omega
   have hp : 0 < 2 ^ k := Nat.two_pow_pos k
   rw [Nat.pow_succ, ← Nat.div_div_eq_div_mul, ← Nat.div_div_eq_div_mul, Nat.add_div_right _ hp]
   omega
  have hd : ∀ z : Nat, z.testBit j = (z / 2 ^ (k + 1)).testBit (j - (k + 1)) := by
   intro z
   rw [Nat.testBit_div_two_pow]
   congr 1; omega
  rw [hd, hq, ← hd]
  simp [Nat.ne_of_gt hj]
theorem add_bit_lt {y k : Nat} (hk : k < 64) (hy : y < 2 ^ 64) (h : y.testBit k = false) : y + 2 ^ k < 2 ^ 64 := by
 refine Nat.lt_pow_two_of_testBit _ fun j hj => ?_
 rw [add_bit h, Nat.testBit_lt_two_pow (Nat.lt_of_lt_of_le hy (Nat.pow_le_pow_right (by decide) hj))]
 simp; omega

/-- a word put in among those that rise -/
def ins (a b : Int) : List Wd → List Wd
 | [] => [(a, b)]
 | x :: t => if x.1 = a then (x.1, x.2 + b) :: t else if a < x.1 then (a, b) :: x :: t else x :: ins a b t
/-- With's loop, and what stands behind it -/
def wend (a b : Int) (st : List Wd × Bool) : List Wd := if st.2 = true then st.1 else st.1 ++ [(a, b)]
theorem wfold_above (a b : Int) : ∀ (s : List Wd) (l : List Wd), (∀ x ∈ s, a < x.1) → s.foldl (wstep a b) (l, true) = (l ++ s, true)
 | [], l, _ => by simp
 | x :: s, l, h => by
  have hx := h x (by simp)
  rw [List.foldl_cons, wstep, if_neg (by omega), if_neg (by simp), wfold_above a b s _ (fun y hy => h y (by simp [hy]))]
  simp
theorem wfold_ins (a b : Int) : ∀ (s : List Wd) (l : List Wd), s.Pairwise (fun x y => x.1 < y.1) → wend a b (s.foldl (wstep a b) (l, false)) = l ++ ins a b s
 | [], l, _ => by simp [wend, ins]
 | x :: s, l, h => by
  have hh := (List.pairwise_cons.1 h).1
  have ht := (List.pairwise_cons.1 h).2
  rw [List.foldl_cons, wstep, ins]
  by_cases h1 : x.1 = a
  ·rw [if_pos h1, if_pos h1, wfold_above a b s _ (fun y hy => by have := hh y hy; omega)]
   simp [wend]
  ·rw [if_neg h1, if_neg h1]
   by_cases h2 : a < x.1
   ·rw [if_pos ⟨h2, rfl⟩, if_pos h2, wfold_above a b s _ (fun y hy => by have := hh y hy; omega)]
    simp [wend]
   ·rw [if_neg (fun e => h2 e.1), if_neg h2, wfold_ins a b s _ ht]
    simp
theorem withS_eq {s : List Wd} (h : MayW s) (n : Int) : withS s n = if inS s n = true then s else ins (n / 64) ((2 ^ (n % 64).toNat : Nat) : Int) s := by
 unfold withS
 split
 ·rfl
 ·have := wfold_ins (n / 64) ((2 ^ (n % 64).toNat : Nat) : Int) s [] h.2
  rw [List.nil_append] at this
  rw [← this]; rfl

theorem ins_mem (a b : Int) : ∀ (s : List Wd) (y : Wd), y ∈ ins a b s → y = (a, b) ∨ y ∈ s ∨ (∃ x ∈ s, x.1 = a ∧ y = (x.1, x.2 + b))
 | [], y, h => by simp [ins] at h; exact .inl h
 | x :: s, y, h => by
  rw [ins] at h
  split at h
  ·rename_i h1
   rcases List.mem_cons.1 h with rfl | h
   ·exact .inr (.inr ⟨x, by simp, h1, rfl⟩)
   ·exact .inr (.inl (by simp [h]))
  ·split at h
   ·rcases List.mem_cons.1 h with rfl | h
    ·exact .inl rfl
    ·exact .inr (.inl h)
   ·rcases List.mem_cons.1 h with rfl | h
    ·exact .inr (.inl (by simp))
    ·rcases ins_mem a b s y h with h | h | ⟨z, hz, h⟩
     ·exact .inl h
     ·exact .inr (.inl (by simp [h]))
     ·exact .inr (.inr ⟨z, by simp [hz], h⟩)
theorem ins_first (a b : Int) (s : List Wd) (y : Wd) (h : y ∈ ins a b s) : y.1 = a ∨ y ∈ s := by
 rcases ins_mem a b s y h with rfl | h | ⟨x, hx, h1, rfl⟩
 ·exact .inl rfl
 ·exact .inr h
 ·exact .inl h1
theorem ins_rise (a b : Int) : ∀ (s : List Wd), s.Pairwise (fun x y => x.1 < y.1) → (ins a b s).Pairwise (fun x y => x.1 < y.1)
 | [], _ => by simp [ins]
 | x :: s, h => by
  have hh := (List.pairwise_cons.1 h).1
  have ht := (List.pairwise_cons.1 h).2
  rw [ins]
  split
  ·exact List.pairwise_cons.2 ⟨hh, ht⟩
  ·split
   ·rename_i h1 h2
    refine List.pairwise_cons.2 ⟨fun y hy => ?_, h⟩
    rcases List.mem_cons.1 hy with rfl | hy
    ·exact h2
    ·have := hh y hy; show a < y.1; omega
   ·rename_i h1 h2
    refine List.pairwise_cons.2 ⟨fun y hy => ?_, ins_rise a b s ht⟩
    rcases ins_first a b s y hy with h | h
    ·omega
    ·exact hh y h

theorem inS_at {s : List Wd} {n : Int} : MayW s → inS s n = false → ∀ x ∈ s, x.1 = n / 64 → bitOf x.2 (n % 64).toNat = false := by
 induction s with
 | nil => intro _ _ x hx; cases hx
 | cons x s ih =>
  intro hm hf y hy he
  rw [inS_cons] at hf
  rcases List.mem_cons.1 hy with rfl | hy
  ·rw [if_pos he] at hf; exact hf
  ·have := hm.head y hy
   rw [if_neg (by omega)] at hf
   exact ih hm.tail hf y hy he

theorem word_fits {y : Int} {k : Nat} (hk : k < 64) (h0 : 0 ≤ y) (h1 : y ≤ 18446744073709551615) (hb : bitOf y k = false) : y + ((2 ^ k : Nat) : Int) ≤ 18446744073709551615 := by
 rw [show y = (y.toNat : Int) by omega, bitOf_testBit] at hb
 have := add_bit_lt hk (y := y.toNat) (by omega) hb
 have e : (2 : Nat) ^ 64 = 18446744073709551616 := by decide
 omega
theorem ins_may {s : List Wd} {n : Int} (h0 : 0 ≤ n) (h1 : n < 1048576) (hm : MayW s) (hf : inS s n = false) : MayW (ins (n / 64) ((2 ^ (n % 64).toNat : Nat) : Int) s) := by
 have hp : 0 < 2 ^ (n % 64).toNat := Nat.two_pow_pos _
 have hp2 := pow_lt (k := (n % 64).toNat) (by omega)
 refine ⟨fun y hy => ?_, ins_rise _ _ _ hm.2⟩
 rcases ins_mem _ _ _ _ hy with rfl | hy | ⟨x, hx, h2, rfl⟩
 ·generalize 2 ^ (n % 64).toNat = p at *
  exact ⟨by simp only; omega, by simp only; omega, by simp only; omega, by simp only; omega⟩
 ·exact hm.1 y hy
 ·obtain ⟨a, b, c, d⟩ := hm.1 x hx
  have := word_fits (k := (n % 64).toNat) (by omega) (by omega) d (inS_at hm hf x hx h2)
  exact ⟨a, b, by simp only; omega, this⟩

theorem bit_add {y : Int} {k j : Nat} (h0 : 0 ≤ y) (hb : bitOf y k = false) : bitOf (y + ((2 ^ k : Nat) : Int)) j = (bitOf y j || decide (j = k)) := by
 rw [show y = (y.toNat : Int) by omega] at hb ⊢
 rw [bitOf_testBit] at hb
 rw [show ((y.toNat : Int) + ((2 ^ k : Nat) : Int)) = ((y.toNat + 2 ^ k : Nat) : Int) by omega, bitOf_testBit, bitOf_testBit, add_bit hb]
theorem bit_one {k j : Nat} : bitOf ((2 ^ k : Nat) : Int) j = decide (j = k) := by
 have h := bit_add (y := 0) (k := k) (j := j) (by omega) (by simp [bitOf])
 simpa [bitOf] using h

theorem inS_ins {n m : Int} (h0 : 0 ≤ n) (hm0 : 0 ≤ m) : ∀ {s : List Wd}, MayW s → inS s n = false → inS (ins (n / 64) ((2 ^ (n % 64).toNat : Nat) : Int) s) m = (inS s m || decide (m = n))
 | [], _, _ => by
  rw [ins, inS_cons]
  simp only [inS]
  rw [bit_one]
  by_cases h1 : n / 64 = m / 64
  ·rw [if_pos h1]; simp only [Bool.false_or, decide_eq_decide]; omega
  ·rw [if_neg h1]; simp; omega
 | x :: s, hm, hf => by
  rw [ins]
  obtain ⟨a, b, c, d⟩ := hm.1 x (by simp)
  by_cases h1 : x.1 = n / 64
  ·rw [if_pos h1, inS_cons, inS_cons]
   have hb := inS_at hm hf x (by simp) h1
   by_cases h2 : x.1 = m / 64
   ·rw [if_pos h2, if_pos h2, bit_add (by omega) hb]
    congr 1; simp only [decide_eq_decide]; omega
   ·rw [if_neg h2, if_neg h2]
    simp; omega
  ·rw [if_neg h1]
   by_cases h2 : n / 64 < x.1
   ·rw [if_pos h2, inS_cons (x := (n / 64, _))]
    simp only
    rw [bit_one]
    by_cases h3 : n / 64 = m / 64
    ·rw [if_pos h3]
     rw [inS_out (s := x :: s) (n := m) (fun y hy => by
      rcases List.mem_cons.1 hy with rfl | hy
      ·omega
      ·have := hm.head y hy; omega)]
     simp only [Bool.false_or, decide_eq_decide]; omega
    ·rw [if_neg h3]; simp; omega
   ·rw [if_neg h2, inS_cons, inS_cons]
    by_cases h3 : x.1 = m / 64
    ·rw [if_pos h3, if_pos h3]; simp; omega
    ·rw [if_neg h3, if_neg h3]
     rw [inS_cons, if_neg h1] at hf
     exact inS_ins h0 hm0 hm.tail hf

/-- WHAT WITH ANSWERS -/
theorem with_may {s : List Wd} {n : Int} (h0 : 0 ≤ n) (h1 : n < 1048576) (hm : MayW s) : MayW (withS s n) := by
 rw [withS_eq hm]
 cases hf : inS s n
 ·exact ins_may h0 h1 hm hf
 ·exact hm
theorem inS_with {s : List Wd} {n m : Int} (h0 : 0 ≤ n) (hm0 : 0 ≤ m) (hm : MayW s) : inS (withS s n) m = (inS s m || decide (m = n)) := by
 rw [withS_eq hm]
 cases hf : inS s n
 ·exact inS_ins h0 hm0 hm hf
 ·rw [if_pos rfl]
  by_cases h : m = n
  ·rw [h, hf]; simp
  ·simp [h]
end Go.Proofs.YtpejpnffcepdlaaGreatDoor.SetT
namespace Go.Proofs.YtpejpnffcepdlaaGreatDoor.SetW2
open Go.RowKit Go.Lib SetP SetO SetNum SetIn SetWith SetT

theorem owns_base {w : World} {B B2 : Nat} {e : TypeId} {size : Nat} {v : Value} {n : Nat} {xs : List Value} (h : w.ownsRow B2 e size v n xs) (hB : B ≤ B2) : w.ownsRow B e size v n xs := by
 obtain ⟨h1, h2⟩ := h
 refine ⟨h1, ?_⟩
 rcases h2 with h2 | ⟨g, cap, cur, a, b, c⟩
 ·exact .inl h2
 ·exact .inr ⟨g, cap, cur, a, Nat.le_trans hB b, c⟩

theorem may_length {s : List Wd} (h : MayW s) : s.length ≤ 16384 := by
 have key : ∀ (s : List Wd) (lo : Int), (∀ x ∈ s, lo ≤ x.1 ∧ x.1 < 16384) → s.Pairwise (fun x y => x.1 < y.1) → lo ≤ 16384 → (s.length : Int) ≤ 16384 - lo := by
  intro s
  induction s with
  | nil => intro lo _ _ hl; simp; omega
  | cons x t ih =>
   intro lo h1 h2 hl
   have hx := h1 x (by simp)
   have := ih (x.1 + 1) (fun y hy => by have := (List.pairwise_cons.1 h2).1 y hy; have := (h1 y (by simp [hy])).2; omega) (List.pairwise_cons.1 h2).2 (by omega)
   simp; omega
 have := key s 0 (fun x hx => ⟨(h.1 x hx).1, (h.1 x hx).2.1⟩) h.2 (by omega)
 omega
end Go.Proofs.YtpejpnffcepdlaaGreatDoor.SetW2
namespace Go.Proofs.YtpejpnffcepdlaaGreatDoor.SetC
open Go.RowKit Go.Lib SetP SetO SetNum SetIn SetWith SetT SetW2 SetMay

theorem rise_of_adj : ∀ (s : List Wd), (∀ i (h0 : 0 < i) (h : i < s.length), s[i - 1].1 < s[i].1) → s.Pairwise (fun x y => x.1 < y.1)
 | [], _ => by simp
 | [x], _ => by simp
 | x :: z :: r, h => by
  have ih := rise_of_adj (z :: r) (fun i h0 hi => by
   have := h (i + 1) (by omega) (by simpa using hi)
   obtain ⟨j, rfl⟩ : ∃ j, i = j + 1 := ⟨i - 1, by omega⟩
   simpa using this)
  have hxz : x.1 < z.1 := h 1 (by omega) (by simp)
  refine List.pairwise_cons.2 ⟨fun y hy => ?_, ih⟩
  rcases List.mem_cons.1 hy with rfl | hy
  ·exact hxz
  ·have := (List.pairwise_cons.1 ih).1 y hy; omega
instance (s : List Wd) : Decidable (MayW s) := by unfold MayW; infer_instance
end Go.Proofs.YtpejpnffcepdlaaGreatDoor.SetC
namespace Go.Proofs.YtpejpnffcepdlaaGreatDoor.BitCheck
open Go.RowKit Go.Lib SetP SetO SetNum SetIn SetWith SetT SetW2 SetMay SetC

/-- what Check answers -/
def chk (s : List Wd) : Int := if MayW s then 0 else 8
theorem chk_yes {s : List Wd} (h : MayW s) : chk s = 0 := if_pos h
theorem chk_no {s : List Wd} (h : ¬ MayW s) : chk s = 8 := if_neg h

/-- the place ahead of the word at i -/
def pre (s : List Wd) : Nat → Int
 | 0 => -1
 | i + 1 => (s[i]?.getD (0, 0)).1
/-- does the word at i fall? -/
def cbad (s : List Wd) (i : Nat) : Bool := decide ((s[i]?.getD (0, 0)).1 ≤ pre s i) || decide (16384 ≤ (s[i]?.getD (0, 0)).1) || decide ((s[i]?.getD (0, 0)).2 = 0)
theorem cbad_iff {s : List Wd} (hok : ∀ x ∈ s, WdOk x) : (∀ i, i < s.length → cbad s i = false) ↔ MayW s := by
 constructor
 ·intro h
  have hadj : ∀ i (h0 : 0 < i) (hi : i < s.length), s[i - 1].1 < s[i].1 := by
   intro i h0 hi
   obtain ⟨j, rfl⟩ : ∃ j, i = j + 1 := ⟨i - 1, by omega⟩
   have hb := h (j + 1) hi
   unfold cbad pre at hb
   have e1 : s[j]? = some s[j] := List.getElem?_eq_getElem (show j < s.length by omega)
   have e2 : s[j + 1]? = some s[j + 1] := List.getElem?_eq_getElem hi
   simp only [e1, e2, Bool.or_eq_false_iff, decide_eq_false_iff_not, Option.getD_some] at hb
   simp only [Nat.add_sub_cancel]
   omega
  have hnn : ∀ i (hi : i < s.length), 0 ≤ s[i].1 := by
   intro i
   induction i with
   | zero =>
    intro hi
    have hb := h 0 hi
    unfold cbad pre at hb
    rw [List.getElem?_eq_getElem hi] at hb
    simp only [Bool.or_eq_false_iff, decide_eq_false_iff_not, Option.getD_some] at hb
    omega
   | succ j ih =>
    intro hi
    have h1 := hadj (j + 1) (by omega) hi
    have h2 := ih (by omega)
    simp only [Nat.add_sub_cancel] at h1
    omega
  refine ⟨fun x hx => ?_, rise_of_adj s hadj⟩
  obtain ⟨i, hi, rfl⟩ := List.mem_iff_getElem.1 hx
  have hb := h i hi
  obtain ⟨_, _, y0, y1⟩ := hok _ hx
  have hn := hnn i hi
  unfold cbad at hb
  rw [List.getElem?_eq_getElem hi] at hb
  simp only [Bool.or_eq_false_iff, decide_eq_false_iff_not, Option.getD_some] at hb
  omega
 ·intro hm i hi
  obtain ⟨a, b, c, d⟩ := hm.1 s[i] (List.getElem_mem hi)
  unfold cbad
  rw [List.getElem?_eq_getElem hi]
  simp only [Bool.or_eq_false_iff, decide_eq_false_iff_not, Option.getD_some]
  refine ⟨⟨?_, by omega⟩, by omega⟩
  cases i with
  | zero => simp only [pre]; omega
  | succ j =>
   have := List.pairwise_iff_getElem.1 hm.2 j (j + 1) (by omega) hi (by omega)
   simp only [pre]
   rw [List.getElem?_eq_getElem (show j < s.length by omega)]
   simp only [Option.getD_some]; omega

set_option maxHeartbeats 400000 in
theorem check_calls (v : Value) (s : List Wd) (w : World) (hs : SetAt w v s) (hok : ∀ x ∈ s, WdOk x) :
  Calls Tryz.prog 179 #[v] w fun e w' => e = .returned (.int .i64 (chk s)) ∧ Below w.heap.size w w' := by
 have HI := hid (cbad_iff hok)
 have HO := hid hok
 clear hok
 obtain ⟨ao, cap, rfl, hl, hm, _⟩ := hs
 go_enter Tryz.func179, Tryz.ntmps179
 go_wp2
 go_loopg [3, 8] s.length (fun g p i wr => ∃ k : Nat, k + g = s.length ∧ i = .int .i64 k ∧ p = .int .i64 (pre s k) ∧ (∀ j, j < k → cbad s j = false) ∧ Below w.heap.size w wr)
 case atStart => exact ⟨0, by omega, rfl, rfl, by omega, Below.refl _ _⟩
 case round =>
  obtain ⟨k, hk, rfl, rfl, hg, hbe⟩ := hrel
  have HG := hid hg
  clear hg
  by_cases hlt : k < s.length
  ·obtain ⟨b, off, rfl, hbs, hc⟩ := hm (by omega)
   have c0 := (hbe.cell (p := ⟨b, _, none⟩) hbs).trans (hc k hlt).1
   have c1 := (hbe.cell (p := ⟨b, _, none⟩) hbs).trans (hc k hlt).2
   obtain ⟨x0, x1, y0, y1⟩ := HO.out _ (List.getElem_mem hlt)
   have hbad : cbad s k = (decide (s[k].1 ≤ pre s k) || decide (16384 ≤ s[k].1) || decide (s[k].2 = 0)) := by
    unfold cbad; rw [List.getElem?_eq_getElem hlt]; rfl
   have hpre : pre s (k + 1) = s[k].1 := by
    show (s[k]?.getD (0, 0)).1 = _
    rw [List.getElem?_eq_getElem hlt]; rfl
   have HP := hid hpre
   have HM := hid hm
   clear hc hm hpre
   generalize s[k].1 = x at *
   generalize s[k].2 = y at *
   generalize pre s k = p at *
   have HB := hid hbad
   clear hbad
   have HN : Hid (cbad s k = true → chk s = 8) := by
    intro h
    refine chk_no ?_
    intro hmay
    have := HI.out.2 hmay k hlt
    rw [h] at this; cases this
   have hb2 := hbe.alloc hbe.size (.cells #[.int .i64 x, .int .u64 y] 252)
   by_cases h1 : x ≤ p
   ·have HE := hid (HN.out (by rw [HB.out]; simp [h1]))
    go_wp2
    go_ret
    exact ⟨by rw [HE.out]; rfl, hb2⟩
   by_cases h2 : 16384 ≤ x
   ·have HE := hid (HN.out (by rw [HB.out]; simp [h2]))
    go_wp2
    go_ret
    exact ⟨by rw [HE.out]; rfl, hb2⟩
   by_cases h3 : y = 0
   ·have HE := hid (HN.out (by rw [HB.out]; simp [h3]))
    have hd3 : (y == 0) = true := by simpa using h3
    clear h3
    go_wp2
    go_ret
    exact ⟨by rw [HE.out]; rfl, hb2⟩
   have hd3 : (y == 0) = false := by simpa using h3
   go_wp2
   go_roundg (gk - 1)
   case measure => omega
   case rel => exact ⟨k + 1, by omega, by go_num, by rw [HP.out], (fun j hj => by
     rcases Nat.lt_succ_iff_lt_or_eq.1 hj with h | rfl
     ·exact HG.out j h
     ·rw [HB.out]; simp [h1, h2, h3]), hb2⟩
  ·have HE := hid (chk_yes (HI.out.1 (fun i hi => HG.out i (by omega))))
   go_wp2
   go_ret
   exact ⟨by rw [HE.out]; rfl, hbe⟩
end Go.Proofs.YtpejpnffcepdlaaGreatDoor.BitCheck
namespace Go.Proofs.YtpejpnffcepdlaaGreatDoor.SetF
open Go.RowKit Go.Lib SetP SetO SetNum SetIn SetWith SetT SetW2

/-- a set with all of a list -/
def withAll (s : List Wd) (l : List Int) : List Wd := l.foldl withS s
theorem all_may : ∀ (l : List Int) {s : List Wd}, MayW s → (∀ n ∈ l, 0 ≤ n ∧ n < 1048576) → MayW (withAll s l)
 | [], _, hm, _ => hm
 | n :: l, s, hm, h => all_may l (with_may (h n (by simp)).1 (h n (by simp)).2 hm) (fun m hm => h m (by simp [hm]))
theorem inS_all : ∀ (l : List Int) {s : List Wd}, MayW s → (∀ n ∈ l, 0 ≤ n ∧ n < 1048576) → ∀ m, 0 ≤ m → inS (withAll s l) m = (inS s m || decide (m ∈ l))
 | [], s, _, _, m, _ => by simp [withAll]
 | n :: l, s, hm, h, m, h0 => by
  have := inS_all l (s := withS s n) (with_may (h n (by simp)).1 (h n (by simp)).2 hm) (fun m hm => h m (by simp [hm])) m h0
  show inS (withAll (withS s n) l) m = _
  rw [this, inS_with (h n (by simp)).1 h0 hm]
  by_cases h1 : m = n <;> by_cases h2 : m ∈ l <;> simp [h1, h2]

/-- a set, and an error -/
def OwnSR (s : List Wd) (er : Int) (w : World) (e : Ending) (w' : World) : Prop := ∃ u m, e = .returned (.tuple #[u, .int .i64 er]) ∧ w'.ownsRow w.heap.size 252 2 u m (wdVals s) ∧ Below w.heap.size w w'
end Go.Proofs.YtpejpnffcepdlaaGreatDoor.SetF
namespace Go.Proofs.YtpejpnffcepdlaaGreatDoor.BitOfP
open Go.RowKit Go.Lib SetP SetO SetNum SetIn SetWith SetT SetW2 SetF

/-- the words, with one number more -/
def upd (f : Nat → Nat) (n : Int) : Nat → Nat := fun q => if q = (n / 64).toNat then f q ||| 2 ^ (n % 64).toNat else f q
def wordsOf (l : List Int) : Nat → Nat := l.foldl upd (fun _ => 0)
theorem wordsOf_succ {l : List Int} {k : Nat} (h : k < l.length) : wordsOf (l.take (k + 1)) = upd (wordsOf (l.take k)) l[k] := by
 unfold wordsOf; rw [List.take_succ_eq_append_getElem h, List.foldl_append]; rfl

theorem upd_lt {f : Nat → Nat} {n : Int} (hf : ∀ q, f q < 2 ^ 64) : ∀ q, upd f n q < 2 ^ 64 := by
 intro q
 unfold upd
 split
 ·exact Nat.or_lt_two_pow (hf q) (Nat.pow_lt_pow_right (by decide) (by omega))
 ·exact hf q
theorem words_lt : ∀ (l : List Int) (f : Nat → Nat), (∀ q, f q < 2 ^ 64) → ∀ q, l.foldl upd f q < 2 ^ 64
 | [], _, hf, q => hf q
 | n :: l, f, hf, q => words_lt l (upd f n) (upd_lt hf) q
theorem wordsOf_lt (l : List Int) (q : Nat) : wordsOf l q < 2 ^ 64 := words_lt l _ (fun _ => by decide) q

theorem words_bit : ∀ (l : List Int) (f : Nat → Nat), (∀ n ∈ l, 0 ≤ n) → ∀ (q k : Nat), k < 64 → (l.foldl upd f q).testBit k = ((f q).testBit k || decide (((64 * q + k : Nat) : Int) ∈ l))
 | [], f, _, q, k, _ => by simp
 | n :: l, f, hn, q, k, hk => by
  rw [List.foldl_cons, words_bit l (upd f n) (fun m hm => hn m (by simp [hm])) q k hk]
  have h0 := hn n (by simp)
  unfold upd
  by_cases h1 : q = (n / 64).toNat
  ·rw [if_pos h1, Nat.testBit_or, Bool.or_assoc]
   congr 1
   rw [Nat.testBit_two_pow, Bool.eq_iff_iff]
   simp only [Bool.or_eq_true, decide_eq_true_eq, List.mem_cons]
   constructor
   ·rintro (h | h)
    ·left; omega
    ·exact .inr h
   ·rintro (h | h)
    ·left; omega
    ·exact .inr h
  ·rw [if_neg h1]
   congr 1
   rw [Bool.eq_iff_iff]
   simp only [decide_eq_true_eq, List.mem_cons]
   constructor
   ·exact .inr
   ·rintro (h | h)
    ·exfalso; exact h1 (by omega)
    ·exact h
theorem wordsOf_bit {l : List Int} (h : ∀ n ∈ l, 0 ≤ n) {q k : Nat} (hk : k < 64) : (wordsOf l q).testBit k = decide (((64 * q + k : Nat) : Int) ∈ l) := by
 unfold wordsOf
 rw [words_bit l _ h q k hk]
 simp

/-- the words that are not 0, with their places -/
def setW (f : Nat → Nat) (m : Nat) : List Wd := (List.range m).filterMap fun q => if f q = 0 then none else some ((q : Int), (f q : Int))
theorem setW_succ (f : Nat → Nat) (m : Nat) : setW f (m + 1) = setW f m ++ (if f m = 0 then [] else [((m : Int), (f m : Int))]) := by
 unfold setW
 rw [List.range_succ, List.filterMap_append]
 congr 1
 simp only [List.filterMap_cons, List.filterMap_nil]
 split <;> simp_all
theorem setW_mem {f : Nat → Nat} {m : Nat} {x : Wd} (h : x ∈ setW f m) : ∃ q, q < m ∧ f q ≠ 0 ∧ x = ((q : Int), (f q : Int)) := by
 unfold setW at h
 obtain ⟨q, hq, hx⟩ := List.mem_filterMap.1 h
 split at hx
 ·cases hx
 ·exact ⟨q, List.mem_range.1 hq, by assumption, (Option.some.inj hx).symm⟩
theorem setW_length (f : Nat → Nat) (m : Nat) : (setW f m).length ≤ m := by
 unfold setW
 have := List.length_filterMap_le (fun q => if f q = 0 then none else some ((q : Int), (f q : Int))) (List.range m)
 simpa using this
theorem setW_may {f : Nat → Nat} (hf : ∀ q, f q < 2 ^ 64) : ∀ {m : Nat}, m ≤ 16384 → MayW (setW f m)
 | 0, _ => mayw_nil
 | m + 1, hm => by
  have ih := setW_may hf (m := m) (by omega)
  have e : (2 : Nat) ^ 64 = 18446744073709551616 := by decide
  have hfm := hf m
  rw [setW_succ]
  split
  ·rw [List.append_nil]; exact ih
  ·refine ⟨fun x hx => ?_, ?_⟩
   ·rcases List.mem_append.1 hx with hx | hx
    ·exact ih.1 x hx
    ·rw [List.mem_singleton.1 hx]
     exact ⟨by simp only; omega, by simp only; omega, by simp only; omega, by simp only; omega⟩
   ·rw [List.pairwise_append]
    refine ⟨ih.2, by simp, fun x hx y hy => ?_⟩
    obtain ⟨q, hq, _, rfl⟩ := setW_mem hx
    rw [List.mem_singleton.1 hy]
    simp only; omega
theorem inS_append {s t : List Wd} {n : Int} : inS (s ++ t) n = if ∃ x ∈ s, x.1 = n / 64 then inS s n else inS t n := by
 induction s with
 | nil => simp
 | cons x s ih =>
  rw [List.cons_append, inS_cons, inS_cons, ih]
  by_cases h : x.1 = n / 64
  ·simp [h]
  ·rw [if_neg h, if_neg h]
   have e : (∃ y ∈ x :: s, y.1 = n / 64) ↔ (∃ y ∈ s, y.1 = n / 64) := by simp [h]
   simp only [e]
theorem inS_setW {f : Nat → Nat} (m : Nat) {n : Int} (h0 : 0 ≤ n) : inS (setW f m) n = (decide (n / 64 < m) && (f (n / 64).toNat).testBit (n % 64).toNat) := by
 induction m with
 | zero => simp [setW, inS]; omega
 | succ m ih =>
  rw [setW_succ, inS_append]
  split
  ·rename_i hx
   obtain ⟨x, hx, he⟩ := hx
   obtain ⟨q, hq, _, rfl⟩ := setW_mem hx
   simp only at he
   rw [ih, show decide (n / 64 < (m : Int)) = true by simp; omega, show decide (n / 64 < ((m + 1 : Nat) : Int)) = true by simp; omega]
  ·rename_i hx
   by_cases h1 : n / 64 = (m : Int)
   ·rw [show decide (n / 64 < ((m + 1 : Nat) : Int)) = true by simp; omega, Bool.true_and, show (n / 64).toNat = m by omega]
    split
    ·rename_i hz
     rw [hz]; simp [inS]
    ·rw [inS_cons, if_pos h1.symm, bitOf_testBit]
   ·have hr : inS (if f m = 0 then [] else [((m : Int), (f m : Int))]) n = false := by
     split
     ·rfl
     ·rw [inS_cons, if_neg (fun e => h1 e.symm)]; rfl
    rw [hr]
    by_cases h2 : n / 64 < (m : Int)
    ·have hz : inS (setW f m) n = false := inS_out fun x hx2 e => hx ⟨x, hx2, e⟩
     rw [ih] at hz
     rw [show decide (n / 64 < ((m + 1 : Nat) : Int)) = true by simp; omega]
     rw [show decide (n / 64 < (m : Int)) = true by simp; omega] at hz
     exact hz.symm
    ·rw [show decide (n / 64 < ((m + 1 : Nat) : Int)) = false by simp; omega]; rfl

/-- the greatest -/
def mx (l : List Int) : Int := l.foldl max 0
theorem mx_succ {l : List Int} {k : Nat} (h : k < l.length) : mx (l.take (k + 1)) = max (mx (l.take k)) l[k] := by
 unfold mx; rw [List.take_succ_eq_append_getElem h, List.foldl_append]; rfl
theorem fmax : ∀ (l : List Int) (a : Int), a ≤ l.foldl max a ∧ ∀ n ∈ l, n ≤ l.foldl max a
 | [], a => ⟨Int.le_refl _, fun n h => by cases h⟩
 | x :: l, a => by
  obtain ⟨h1, h2⟩ := fmax l (max a x)
  rw [List.foldl_cons]
  refine ⟨by omega, fun n hn => ?_⟩
  rcases List.mem_cons.1 hn with rfl | hn
  ·omega
  ·exact h2 n hn
theorem fmax_lt : ∀ (l : List Int) (a b : Int), a < b → (∀ n ∈ l, n < b) → l.foldl max a < b
 | [], _, _, h, _ => h
 | x :: l, a, b, h, hl => by
  rw [List.foldl_cons]
  exact fmax_lt l _ _ (by have := hl x (by simp); omega) (fun n hn => hl n (by simp [hn]))
theorem mx_le (l : List Int) : 0 ≤ mx l ∧ ∀ n ∈ l, n ≤ mx l := fmax l 0
theorem mx_lt {l : List Int} (h : ∀ n ∈ l, 0 ≤ n ∧ n < 1048576) : mx l < 1048576 := fmax_lt l 0 _ (by omega) (fun n hn => (h n hn).2)

theorem set_of {l : List Int} (h : ∀ n ∈ l, 0 ≤ n ∧ n < 1048576) : setW (wordsOf l) ((mx l / 64).toNat + 1) = withAll [] l := by
 have h1 := mx_lt h
 have h2 := (mx_le l).1
 refine ext (setW_may (wordsOf_lt l) (by omega)) (all_may l mayw_nil h) fun n n0 n1 => ?_
 rw [inS_setW _ n0, inS_all l mayw_nil h n n0, wordsOf_bit (fun m hm => (h m hm).1) (by omega)]
 rw [show ((64 * (n / 64).toNat + (n % 64).toNat : Nat) : Int) = n by omega]
 simp only [inS, Bool.false_or]
 by_cases hn : n ∈ l
 ·have := (mx_le l).2 n hn
  rw [show decide (n / 64 < (((mx l / 64).toNat + 1 : Nat) : Int)) = true by simp; omega]; rfl
 ·simp [hn]

/-! how the words lie in memory -/
def wordCells (f : Nat → Nat) (m : Nat) : Array Value := ((List.range m).map fun q => Value.int .u64 (f q : Int)).toArray
theorem wordCells_size (f : Nat → Nat) (m : Nat) : (wordCells f m).size = m := by simp [wordCells]
theorem wordCells_at {f : Nat → Nat} {m q : Nat} (h : q < m) : (wordCells f m)[q]? = some (.int .u64 (f q : Int)) := by simp [wordCells, h]
theorem wordCells_zero (m : Nat) : madeCells (Value.int .u64 0).cells m = wordCells (fun _ => 0) m := by
 apply Array.ext_getElem?
 intro q
 by_cases h : q < m
 ·rw [wordCells_at h]
  simp [madeCells, h, Value.cells, Nat.mod_one]
 ·rw [Array.getElem?_eq_none (by rw [size_madeCells]; omega), Array.getElem?_eq_none (by rw [wordCells_size]; omega)]
theorem words_cell {w : World} {B : Nat} {f : Nat → Nat} {m q : Nat} {t : TypeId} (h : w.heap[B]? = some (.cells (wordCells f m) t (0, 0))) (hq : q < m) : w.cell? ⟨B, q, none⟩ = some (.int .u64 (f q : Int)) := by
 unfold World.cell?
 rw [h]
 have := wordCells_at (f := f) hq
 simpa using this
theorem words_frozen {w : World} {B : Nat} {f : Nat → Nat} {m q : Nat} {t : TypeId} (h : w.heap[B]? = some (.cells (wordCells f m) t (0, 0))) : w.frozen? ⟨B, q, none⟩ = false := by
 simp [World.frozen?, h]
theorem words_set {w : World} {B : Nat} {f g : Nat → Nat} {m q : Nat} {t : TypeId} (h : w.heap[B]? = some (.cells (wordCells f m) t (0, 0))) (hg : ∀ p, p < m → g p = if p = q then g q else f p) :
  (w.setCell ⟨B, q, none⟩ (.int .u64 (g q : Int))).heap[B]? = some (.cells (wordCells g m) t (0, 0)) := by
 obtain ⟨hlt, hk⟩ := Array.getElem?_eq_some_iff.1 h
 have e : wordCells g m = (wordCells f m).setIfInBounds q (.int .u64 (g q : Int)) := by
  apply Array.ext_getElem?
  intro p
  rw [Array.getElem?_setIfInBounds]
  by_cases hp : p < m
  ·rw [wordCells_at hp]
   by_cases e : q = p
   ·subst e
    rw [if_pos rfl, if_pos (by rw [wordCells_size]; exact hp)]
   ·rw [if_neg e, wordCells_at hp, hg p hp, if_neg (fun h => e h.symm)]
  ·rw [Array.getElem?_eq_none (by rw [wordCells_size]; omega)]
   split
   ·rename_i e
    rw [if_neg (by rw [wordCells_size]; omega)]
   ·rw [Array.getElem?_eq_none (by rw [wordCells_size]; omega)]
 show (w.heap.modify B _)[B]? = _
 rw [Array.getElem?_eq_getElem (by rw [Array.size_modify]; exact hlt), Array.getElem_modify_self, hk, e]
 rfl

theorem may_calls (n : Int) (w : World) : Calls Tryz.prog 178 #[.int .i64 n] w fun e w' => e = .returned (.bool (decide (0 ≤ n ∧ n < 1048576))) ∧ w = w' := by
 by_cases h0 : 0 ≤ n
 ·by_cases h1 : n < 1048576
  ·have HD := hid (decide_eq_true (p := 0 ≤ n ∧ n < 1048576) ⟨h0, h1⟩)
   rw [HD.out]
   go_enter Tryz.func178, Tryz.ntmps178
   go_wp2
   go_ret
   exact ⟨rfl, rfl⟩
  ·have HD := hid (decide_eq_false (p := 0 ≤ n ∧ n < 1048576) (fun h => h1 h.2))
   rw [HD.out]
   go_enter Tryz.func178, Tryz.ntmps178
   go_wp2
   go_ret
   exact ⟨rfl, rfl⟩
 ·have HD := hid (decide_eq_false (p := 0 ≤ n ∧ n < 1048576) (fun h => h0 h.1))
  rw [HD.out]
  go_enter Tryz.func178, Tryz.ntmps178
  go_wp2
  go_ret
  exact ⟨rfl, rfl⟩
end Go.Proofs.YtpejpnffcepdlaaGreatDoor.BitOfP
namespace Go.Proofs.YtpejpnffcepdlaaGreatDoor.BitOf
open Go.RowKit Go.Lib SetP SetO SetNum SetIn SetWith SetT SetW2 SetF BitOfP

theorem info_u64 : (Tryz.prog.info? 250).map (fun i => (i.zero, i.size, i.bytes)) = some (some (.int .u64 0), 1, 8) := by kernel_rfl

/-- make([]uint64, m) -/
theorem make_words (m : Nat) (hm : m ≤ 16384) (w : World) : (Instr.makeSlice 249 (.int .i64 (m : Int)) (.int .i64 (m : Int))).run Tryz.prog w =
  .ok (.slice (some ⟨w.heap.size, 0, none⟩) m m) (w.alloc (.cells (wordCells (fun _ => 0) m) 250)) := by
 obtain ⟨i0, hi, hz0, hz1, hz2⟩ := info_parts info_u64
 have := run_make (P := Tryz.prog) w 249 250 i0 (.int .u64 0) Tryz.underlying249 hi hz0 .i64 .i64 m m (by omega) (by omega) (by rw [hz2]; omega) (by omega)
 rw [hz1, Int.toNat_natCast, Nat.mul_one, wordCells_zero] at this
 exact this

set_option maxRecDepth 100000 in
set_option maxHeartbeats 2000000 in
theorem of_good (v : Value) (l : List Int) (w : World) (hl : IntsAt w v l) (hin : ∀ n ∈ l, 0 ≤ n ∧ n < 1048576) :
  Calls Tryz.prog 138 #[v] w (OwnSR (withAll [] l) 0 w) := by
 obtain ⟨i0, hi, hz0, hz1, hz2⟩ := info_parts info_wd
 have HSET := hid (set_of hin)
 have HIN := hid hin
 have HMX := hid (mx_lt hin)
 clear hin
 obtain ⟨ao, cap, rfl, hll, hm, _⟩ := hl
 have HM := hid hm
 have HMay := hid may_calls
 clear hm
 go_enter Tryz.func138, Tryz.ntmps138
 go_wp2
 go_loopg [4, 15] l.length (fun g p i wr => ∃ k : Nat, k + g = l.length ∧ i = .int .i64 k ∧ p = .int .i64 (mx (l.take k)) ∧ w = wr)
 case atStart => exact ⟨0, by omega, rfl, rfl, rfl⟩
 case round =>
  obtain ⟨k, hk, rfl, rfl, rfl⟩ := hrel
  by_cases hlt : k < l.length
  ·obtain ⟨b, off, rfl, hbs, hc⟩ := HM.out (by omega)
   have c0 := hc k hlt
   obtain ⟨n0, n1⟩ := HIN.out _ (List.getElem_mem hlt)
   have HS := hid (mx_succ hlt)
   clear hc
   generalize l[k] = n at *
   generalize mx (l.take k) = q at *
   have HD := hid (decide_eq_true (p := 0 ≤ n ∧ n < 1048576) ⟨n0, n1⟩)
   have hnot : ∀ (x : Bool) (w : World), (Op.unary .not (.bool x)).run Tryz.prog w = .ok (.bool (!x)) w := fun _ _ => rfl
   have HMn := HMay.out n
   rw [HD.out] at HMn
   have HMN := hid HMn
   clear HMn
   go_wp2_with fail
   refine (HMN.out _).mono ?_
   rintro e w1 ⟨rfl, rfl⟩
   go_wp2
   all_goals
    go_roundg (gk - 1)
    case measure => omega
    case rel => exact ⟨k + 1, by omega, by go_num, by (rw [HS.out]; congr 1; omega), rfl⟩
  ·obtain rfl : k = l.length := by omega
   rw [List.take_length]
   have h0 := (mx_le l).1
   have h1 := HMX.out
   obtain ⟨m, hmm⟩ : ∃ m : Nat, (mx l / 64).toNat + 1 = m := ⟨_, rfl⟩
   rw [hmm] at HSET
   have hmk := make_words m (by omega)
   have e2 : mx l / 64 + 1 = (m : Int) := by omega
   have HMXL := hid (mx_le l).2
   generalize mx l = p at *
   go_wp2_with fail
   clear hmk
   have hb0 : Below w.heap.size w (w.alloc (.cells (wordCells (fun _ => 0) m) 250)) := (Below.refl _ _).alloc (Nat.le_refl _) _
   have hw0 : (w.alloc (.cells (wordCells (fun _ => 0) m) 250)).heap[w.heap.size]? = some (.cells (wordCells (fun _ => 0) m) 250 (0, 0)) := heap_alloc_new w _
   have HB0 := hid hb0
   have HW0 := hid hw0
   have HE2 := hid e2
   clear hb0 hw0 e2 hmm
   generalize w.alloc (.cells (wordCells (fun _ => 0) m) 250) = ws at *
   go_loopg [32] l.length (fun g i wr => ∃ k : Nat, k + g = l.length ∧ i = .int .i64 k ∧ wr.heap[w.heap.size]? = some (.cells (wordCells (wordsOf (l.take k)) m) 250 (0, 0)) ∧ Below w.heap.size w wr)
   case atStart => exact ⟨0, by omega, rfl, HW0.out, HB0.out⟩
   case round =>
    obtain ⟨k, hk, rfl, hws, hbe⟩ := hrel
    by_cases hlt : k < l.length
    ·obtain ⟨b, off, rfl, hbs, hc⟩ := HM.out (by omega)
     have c0 := (hbe.cell (p := ⟨b, _, none⟩) hbs).trans (hc k hlt)
     obtain ⟨n0, n1⟩ := HIN.out _ (List.getElem_mem hlt)
     have HS := hid (wordsOf_succ hlt)
     have hle := HMXL.out _ (List.getElem_mem hlt)
     clear hc
     generalize l[k] = n at *
     obtain ⟨q, hq⟩ : ∃ q : Nat, n / 64 = (q : Int) := ⟨(n / 64).toNat, by omega⟩
     obtain ⟨r, hr⟩ : ∃ r : Nat, n % 64 = (r : Int) := ⟨(n % 64).toNat, by omega⟩
     have hqt : n.tdiv 64 = (q : Int) := by rw [Int.tdiv_eq_ediv_of_nonneg n0]; exact hq
     have hrt : n.tmod 64 = (r : Int) := by rw [Int.tmod_eq_emod_of_nonneg n0]; exact hr
     have hqm : q < m := by have := HE2.out; omega
     have hqm' : (q : Int) < (m : Int) := by omega
     have hq0 : (0 : Int) ≤ (q : Int) := by omega
     have hr64 : r < 64 := by omega
     have cq := words_cell (f := wordsOf (l.take k)) hws hqm
     have fq := words_frozen (q := q) hws
     have hsh : IntKind.u64.wrap ((2 : Int) ^ r) = ((2 ^ r : Nat) : Int) := by
      have hp : 2 ^ r < 18446744073709551616 := Nat.lt_of_lt_of_le (Nat.pow_lt_pow_right (by decide) hr64) (by decide)
      have e : ((2 : Int) ^ r) = ((2 ^ r : Nat) : Int) := by simp
      rw [IntKind.wrap_u64, e]
      generalize 2 ^ r = pr at *
      omega
     have hor : bits .or .u64 ((wordsOf (l.take k) q : Nat) : Int) ((2 ^ r : Nat) : Int) = ((wordsOf (l.take k) q ||| 2 ^ r : Nat) : Int) :=
      bits_or_u64_nat _ _ (wordsOf_lt _ _) (Nat.lt_of_lt_of_le (Nat.pow_lt_pow_right (by decide) hr64) (by decide))
     have hnew : wordsOf (l.take (k + 1)) q = wordsOf (l.take k) q ||| 2 ^ r := by
      rw [HS.out]; unfold upd; rw [if_pos (by omega)]
      congr 2; omega
     have hset : (wr.setCell ⟨w.heap.size, q, none⟩ (.int .u64 ((wordsOf (l.take k) q ||| 2 ^ r : Nat) : Int))).heap[w.heap.size]? = some (.cells (wordCells (wordsOf (l.take (k + 1))) m) 250 (0, 0)) := by
      rw [← hnew]
      refine words_set hws fun p hp => ?_
      by_cases e : p = q
      ·rw [if_pos e, e]
      ·rw [if_neg e, HS.out]; unfold upd; rw [if_neg (by omega)]
     have HSET2 := hid hset
     have HWS := hid hws
     clear hset hnew hws HS
     have hbe2 := hbe.setCell (p := ⟨w.heap.size, q, none⟩) (Nat.le_refl _) (.int .u64 ((wordsOf (l.take k) q ||| 2 ^ r : Nat) : Int))
     generalize wordsOf (l.take k) q = z at *
     generalize 2 ^ r = pr at *
     go_wp2_with fail
     go_region
     all_goals
      go_wp2
      go_roundg (gk - 1)
      case measure => omega
      case rel => exact ⟨k + 1, by omega, by go_num, HSET2.out, hbe2.drew⟩
    ·obtain rfl : k = l.length := by omega
     rw [List.take_length] at hws
     have hfl := wordsOf_lt l
     have HFL := hid hfl
     clear hfl HIN HMay HMXL
     generalize wordsOf l = f at *
     have hm16 : m ≤ 16384 := by have := HE2.out; omega
     clear HB0 HW0 HM
     obtain ⟨wo, hwo⟩ : ∃ wo : World, wo = wr := ⟨wr, rfl⟩
     subst hwo
     have HWS := hid hws
     have HBO := hid hbe
     clear hws hbe
     go_wp2_with fail
     go_loopg [10, 49] m (fun g o i wr => ∃ k c : Nat, k + g = m ∧ i = .int .i64 k ∧ wr.ownsRow w.heap.size 252 2 o c (wdVals (setW f k)) ∧ wr.heap[w.heap.size]? = some (.cells (wordCells f m) 250 (0, 0)) ∧ Below w.heap.size w wr)
     case atStart => exact ⟨0, 0, by omega, rfl, World.ownsRow_nil _ _ _ _, HWS.out, HBO.out⟩
     case round =>
      obtain ⟨k, c, hk, rfl, hown, hws, hbe⟩ := hrel
      by_cases hlt : k < m
      ·have ck := words_cell (f := f) hws hlt
       have hck : c ≤ 16384 := by
        have h1 := hown.1
        rw [wdVals_length] at h1
        have := setW_length f k
        omega
       have HSu := hid (setW_succ f k)
       by_cases hz : f k = 0
       ·have hd : ((f k : Nat) : Int) = 0 := by omega
        have hd2 : (((f k : Nat) : Int) != 0) = false := by simp [hd]
        have HZ := hid hz
        clear hz hd
        go_wp2
        go_roundg (gk - 1)
        case measure => omega
        case rel => exact ⟨k + 1, c, by omega, by go_num, by rw [HSu.out, if_pos HZ.out, List.append_nil]; exact hown, hws, hbe⟩
       ·have hd2 : (((f k : Nat) : Int) != 0) = true := by simp; omega
        have HZ := hid hz
        have HWS2 := hid hws
        clear hz hws
        go_wp2_with (first
         | (at_builtin; refine wpList_append_own _ rfl _ _ 95 rfl w.heap.size 252 i0 (.agg #[.int .i64 0, .int .u64 0]) 2 16 Tryz.underlying95 hi hz0 hz1 hz2 rfl (by decide) _ c (wdVals (setW f k)) rfl (hown.alloc _) ⟨wr.heap.size, 0, none⟩ 1 1 [.int .i64 (k : Int), .int .u64 ((f k : Nat) : Int)] rfl rfl ?c1 ?c2 ?c3 ?c4 ?c5 ?_)
         | go_in)
        case c1 => exact cell_two_new _ _ _ _
        case c2 => intro u hu; simp at hu; rcases hu with rfl | rfl <;> rfl
        case c3 => unfold maxLen; omega
        case c4 => omega
        case c5 => have := hbe.size; simp; omega
        ·intro v' w1 hown' hgrow _
         have hlt3 := hown.lt
         have hbe1 : Below w.heap.size w w1 := (hbe.alloc hbe.size _).grown hgrow (by have := hbe.size; simp; omega) (fun g hg => (hlt3 g hg).1)
         have hlw : w.heap.size < wr.heap.size := (Array.getElem?_eq_some_iff.1 HWS2.out).1
         have hws1 : w1.heap[w.heap.size]? = some (.cells (wordCells f m) 250 (0, 0)) := by
          rw [hgrow.block w.heap.size (by simp; omega) (fun e => ?_), Below.heap_alloc _ _ _ hlw]
          ·exact HWS2.out
          ·rcases hown.2 with ⟨rfl, _⟩ | ⟨g, cap, cur, rfl, _, hgb, _⟩
           ·simp [Value.ownBlock] at e
           ·have e2 : w.heap.size = g := by simpa [Value.ownBlock] using e
            rw [← e2, HWS2.out] at hgb
            simp at hgb
         rw [show wdVals (setW f k) ++ [.int .i64 (k : Int), .int .u64 ((f k : Nat) : Int)] = wdVals (setW f (k + 1)) by rw [HSu.out, if_neg HZ.out, wdVals_append]; rfl] at hown'
         clear hown hgrow hbe hlt3 ck
         go_wp2
         go_roundg (gk - 1)
         case measure => omega
         case rel => exact ⟨k + 1, c + 1, by omega, by go_num, hown', hws1, hbe1⟩
      ·obtain rfl : k = m := by omega
       rw [HSET.out] at hown
       have HO := hid hown
       clear hown hws
       go_wp2
       go_ret2
       exact ⟨_, c, rfl, HO.out, hbe⟩

set_option maxHeartbeats 1000000 in
theorem of_bad (v : Value) (l : List Int) (w : World) (hl : IntsAt w v l) (hin : ¬ ∀ n ∈ l, 0 ≤ n ∧ n < 1048576) :
  Calls Tryz.prog 138 #[v] w (OwnSR [] 2 w) := by
 have HIN := hid hin
 clear hin
 obtain ⟨ao, cap, rfl, hll, hm, _⟩ := hl
 have HM := hid hm
 have HMay := hid may_calls
 clear hm
 go_enter Tryz.func138, Tryz.ntmps138
 go_wp2
 go_loopg [4, 15] l.length (fun g p i wr => ∃ k : Nat, k + g = l.length ∧ i = .int .i64 k ∧ p = .int .i64 (mx (l.take k)) ∧ (∀ j (h : j < l.length), j < k → 0 ≤ l[j] ∧ l[j] < 1048576) ∧ w = wr)
 case atStart => exact ⟨0, by omega, rfl, rfl, (fun j h hj => by omega), rfl⟩
 case round =>
  obtain ⟨k, hk, rfl, rfl, hg, rfl⟩ := hrel
  have HG := hid hg
  clear hg
  by_cases hlt : k < l.length
  ·obtain ⟨b, off, rfl, hbs, hc⟩ := HM.out (by omega)
   have c0 := hc k hlt
   have HS := hid (mx_succ hlt)
   have HX : Hid (0 ≤ l[k] ∧ l[k] < 1048576 → ∀ j (h : j < l.length), j < k + 1 → 0 ≤ l[j] ∧ l[j] < 1048576) := by
    intro hp j h hj
    rcases Nat.lt_succ_iff_lt_or_eq.1 hj with h2 | rfl
    ·exact HG.out j h h2
    ·exact hp
   clear hc
   generalize l[k] = n at *
   generalize mx (l.take k) = q at *
   have hnot : ∀ (x : Bool) (w : World), (Op.unary .not (.bool x)).run Tryz.prog w = .ok (.bool (!x)) w := fun _ _ => rfl
   have HMn := HMay.out n
   by_cases hp : 0 ≤ n ∧ n < 1048576
   ·rw [decide_eq_true hp] at HMn
    have HMN := hid HMn
    have HX2 := hid (HX.out hp)
    clear HMn hp HX
    go_wp2_with fail
    refine (HMN.out _).mono ?_
    rintro e w1 ⟨rfl, rfl⟩
    go_wp2
    all_goals
     go_roundg (gk - 1)
     case measure => omega
     case rel => exact ⟨k + 1, by omega, by go_num, by (rw [HS.out]; congr 1; omega), HX2.out, rfl⟩
   ·rw [decide_eq_false hp] at HMn
    have HMN := hid HMn
    clear HMn hp HX
    go_wp2_with fail
    refine (HMN.out _).mono ?_
    rintro e w1 ⟨rfl, rfl⟩
    go_wp2
    go_ret2
    exact ⟨_, 0, rfl, World.ownsRow_nil _ _ _ _, Below.refl _ _⟩
  ·exfalso
   refine HIN.out fun n hn => ?_
   obtain ⟨j, hj, rfl⟩ := List.mem_iff_getElem.1 hn
   exact HG.out j hj (by omega)

/-- what Of answers -/
def okL (l : List Int) : Bool := l.all fun n => decide (0 ≤ n ∧ n < 1048576)
theorem okL_iff {l : List Int} : okL l = true ↔ ∀ n ∈ l, 0 ≤ n ∧ n < 1048576 := by simp [okL]
def ofS (l : List Int) : List Wd := if okL l = true then withAll [] l else []
def ofE (l : List Int) : Int := if okL l = true then 0 else 2
theorem of_calls (v : Value) (l : List Int) (w : World) (hl : IntsAt w v l) : Calls Tryz.prog 138 #[v] w (OwnSR (ofS l) (ofE l) w) := by
 unfold ofS ofE
 by_cases h : okL l = true
 ·rw [if_pos h, if_pos h]; exact of_good v l w hl (okL_iff.1 h)
 ·rw [if_neg h, if_neg h]; exact of_bad v l w hl (fun e => h (okL_iff.2 e))
theorem of_may (l : List Int) : MayW (ofS l) := by
 unfold ofS
 split
 ·rename_i h
  exact all_may l mayw_nil (okL_iff.1 h)
 ·exact mayw_nil
end Go.Proofs.YtpejpnffcepdlaaGreatDoor.BitOf
namespace Go.Proofs.YtpejpnffcepdlaaGreatDoor.SetG
open Go.RowKit Go.Lib SetP SetO SetNum SetIn SetWith SetT SetW2

end Go.Proofs.YtpejpnffcepdlaaGreatDoor.SetG
namespace Go.Proofs.YtpejpnffcepdlaaGreatDoor.SetC
open Go.RowKit Go.Lib SetP SetO SetNum SetIn SetWith SetT SetW2 SetG SetMay


/-- what Has answers -/
def hasS (s : List Wd) (n : Int) : Bool × Int := if MayW s then (if 0 ≤ n ∧ n < 1048576 then (inS s n, 0) else (false, 2)) else (false, 8)
end Go.Proofs.YtpejpnffcepdlaaGreatDoor.SetC
namespace Go.Proofs.YtpejpnffcepdlaaGreatDoor.BitHas
open Go.RowKit Go.Lib SetP SetO SetNum SetIn SetWith SetT SetW2 SetMay SetC SetSame BitCheck BitOfP

theorem bit_and_one (y : Int) (r : Nat) (h0 : 0 ≤ y) (h1 : y ≤ 18446744073709551615) : (bits .and .u64 (y / 2 ^ r) 1 == 1) = bitOf y r := by
 obtain ⟨z, rfl⟩ : ∃ z : Nat, y = (z : Int) := ⟨y.toNat, by omega⟩
 have e : ((z : Int) / 2 ^ r) = ((z / 2 ^ r : Nat) : Int) := by simp
 have hb := bits_and_u64_nat (z / 2 ^ r) 1 (Nat.lt_of_le_of_lt (Nat.div_le_self _ _) (by omega)) (by decide)
 rw [e]
 have e1 : ((1 : Nat) : Int) = 1 := rfl
 rw [e1] at hb
 rw [hb, Nat.and_one_is_mod, bitOf_testBit, Nat.testBit_eq_decide_div_mod_eq]
 rw [Bool.eq_iff_iff]
 simp only [beq_iff_eq, decide_eq_true_eq]
 omega

/-- what Has answers -/
def hasB (s : List Wd) (n : Int) : Bool := (hasS s n).1
def hasE (s : List Wd) (n : Int) : Int := (hasS s n).2

set_option maxHeartbeats 1000000 in
theorem has_calls (v : Value) (s : List Wd) (n : Int) (w : World) (hs : SetAt w v s) (hok : ∀ x ∈ s, WdOk x) :
  Calls Tryz.prog 139 #[v, .int .i64 n] w fun e w' => e = .returned (.tuple #[.bool (hasB s n), .int .i64 (hasE s n)]) ∧ Below w.heap.size w w' := by
 have HC := hid (BitCheck.check_calls v s w hs hok)
 have HM := hid (may_calls n)
 have hnot : ∀ (x : Bool) (w : World), (Op.unary .not (.bool x)).run Tryz.prog w = .ok (.bool (!x)) w := fun _ _ => rfl
 by_cases hm : MayW s
 ·rw [chk_yes hm] at HC
  by_cases hp : 0 ≤ n ∧ n < 1048576
  ·rw [decide_eq_true hp] at HM
   have e1 : hasB s n = inS s n := by unfold hasB hasS; rw [if_pos hm, if_pos hp]
   have e2 : hasE s n = 0 := by unfold hasE hasS; rw [if_pos hm, if_pos hp]
   rw [e1, e2]
   obtain ⟨n0, n1⟩ := hp
   have HWIN := hid hm.win
   have HSA := hid hs
   obtain ⟨ao, cap, rfl, hl, hmm, _⟩ := hs
   have HMM := hid hmm
   clear hm e1 e2 hmm hok
   go_enter Tryz.func139, Tryz.ntmps139
   go_wp2_with fail
   refine HC.out.mono ?_
   rintro e w1 ⟨rfl, hb1⟩
   go_wp2_with fail
   refine (HM.out w1).mono ?_
   rintro e w2 ⟨rfl, rfl⟩
   have HB1 := hid hb1
   clear hb1
   go_wp2_with fail
   go_loopg [19] s.length (fun g i wr => ∃ k : Nat, k + g = s.length ∧ i = .int .i64 k ∧ (∀ j (h : j < s.length), j < k → s[j].1 ≠ n / 64) ∧ Below w.heap.size w wr)
   case atStart => exact ⟨0, by omega, rfl, by omega, HB1.out⟩
   case round =>
    obtain ⟨k, hk, rfl, hg, hbe⟩ := hrel
    have HG := hid hg
    clear hg
    by_cases hlt : k < s.length
    ·obtain ⟨b, off, rfl, hbs, hc⟩ := HMM.out (by omega)
     have c0 := (hbe.cell (p := ⟨b, _, none⟩) hbs).trans (hc k hlt).1
     have c1 := (hbe.cell (p := ⟨b, _, none⟩) hbs).trans (hc k hlt).2
     obtain ⟨x0, x1, y0, y1⟩ := HWIN.out _ (List.getElem_mem hlt)
     have HH := hid (fun hh => inS_hit (s := s) (n := n) hlt HG.out hh)
     have HX : Hid (s[k].1 ≠ n / 64 → ∀ j (h : j < s.length), j < k + 1 → s[j].1 ≠ n / 64) := by
      intro hne j hj hlt2
      rcases Nat.lt_succ_iff_lt_or_eq.1 hlt2 with h | rfl
      ·exact HG.out j hj h
      ·exact hne
     clear hc
     generalize s[k].1 = x at *
     generalize s[k].2 = y at *
     have hb2 := hbe.alloc hbe.size (.cells #[.int .i64 x, .int .u64 y] 252)
     by_cases hx : x = n / 64
     ·have hx1 : (x == n / 64) = true := by simpa using hx
      have HI := hid (HH.out hx)
      obtain ⟨r, hr⟩ : ∃ r : Nat, n % 64 = (r : Int) := ⟨(n % 64).toNat, by omega⟩
      have hr2 : (n % 64).toNat = r := by omega
      have hr64 : r < 64 := by omega
      have hand := bit_and_one y r y0 y1
      have HE : Hid (inS s n = bitOf y r) := by rw [hr2] at HI; exact HI.out
      clear hx HH HX HI hr2
      go_wp2
      go_ret2
      exact ⟨by rw [HE.out]; rfl, hb2⟩
     ·have hx1 : (x == n / 64) = false := by simpa using hx
      have HI := hid (HX.out hx)
      clear hx HH HX
      go_wp2
      go_roundg (gk - 1)
      case measure => omega
      case rel => exact ⟨k + 1, by omega, by go_num, HI.out, hb2⟩
    ·have HN := hid (inS_none (s := s) (n := n) (fun j hj => HG.out j hj (by omega)))
     go_wp2
     go_ret2
     exact ⟨by rw [HN.out]; rfl, hbe⟩
  ·rw [decide_eq_false hp] at HM
   have e1 : hasB s n = false := by unfold hasB hasS; rw [if_pos hm, if_neg hp]
   have e2 : hasE s n = 2 := by unfold hasE hasS; rw [if_pos hm, if_neg hp]
   rw [e1, e2]
   clear hm hs e1 e2 hp hok
   go_enter Tryz.func139, Tryz.ntmps139
   go_wp2_with fail
   refine HC.out.mono ?_
   rintro e w1 ⟨rfl, hb1⟩
   go_wp2_with fail
   refine (HM.out w1).mono ?_
   rintro e w2 ⟨rfl, rfl⟩
   go_wp2
   go_ret2
   exact ⟨rfl, hb1⟩
 ·rw [chk_no hm] at HC
  have e1 : hasB s n = false := by unfold hasB hasS; rw [if_neg hm]
  have e2 : hasE s n = 8 := by unfold hasE hasS; rw [if_neg hm]
  rw [e1, e2]
  clear hm hs e1 e2 HM hok
  go_enter Tryz.func139, Tryz.ntmps139
  go_wp2_with fail
  refine HC.out.mono ?_
  rintro e w1 ⟨rfl, hb1⟩
  go_wp2
  go_ret2
  exact ⟨rfl, hb1⟩
end Go.Proofs.YtpejpnffcepdlaaGreatDoor.BitHas
