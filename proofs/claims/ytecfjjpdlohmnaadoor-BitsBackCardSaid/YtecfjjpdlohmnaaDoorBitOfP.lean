/- Plain facts: the words of a list of numbers; and a walk over bits.may. -/
import Derived.Test.YtecfjjpdlohmnaaDoorSetFP
import Derived.Laws.Bits64b
namespace Go.Proofs.YtecfjjpdlohmnaaDoor.BitOfP
open Go.RowKit Go.Lib SetP SetO SetNum SetIn SetWith SetT SetW2 SetF

/-- the words, with one number more -/
def upd (f : Nat → Nat) (n : Int) : Nat → Nat := fun q => if q = (n / 64).toNat then f q ||| 2 ^ (n % 64).toNat else f q
def wordsOf (l : List Int) : Nat → Nat := l.foldl upd (fun _ => 0)
theorem wordsOf_succ {l : List Int} {k : Nat} (h : k < l.length) : wordsOf (l.take (k + 1)) = upd (wordsOf (l.take k)) l[k] := by
  unfold wordsOf; rw [List.take_succ_eq_append_getElem h, List.foldl_append]; rfl

theorem upd_lt {f : Nat → Nat} {n : Int} (hf : ∀ q, f q < 2 ^ 64) : ∀ q, upd f n q < 2 ^ 64 := by
  intro q
  unfold upd
  split
  · exact Nat.or_lt_two_pow (hf q) (Nat.pow_lt_pow_right (by decide) (by omega))
  · exact hf q
theorem words_lt : ∀ (l : List Int) (f : Nat → Nat), (∀ q, f q < 2 ^ 64) → ∀ q, l.foldl upd f q < 2 ^ 64
  | [], _, hf, q => hf q
  | n :: l, f, hf, q => words_lt l (upd f n) (upd_lt hf) q
theorem wordsOf_lt (l : List Int) (q : Nat) : wordsOf l q < 2 ^ 64 := words_lt l _ (fun _ => by decide) q

theorem words_bit : ∀ (l : List Int) (f : Nat → Nat), (∀ n ∈ l, 0 ≤ n) → ∀ (q k : Nat), k < 64 → (l.foldl upd f q).testBit k = ((f q).testBit k || decide (((64 * q + k : Nat) : Int) ∈ l))
  | [], f, _, q, k, _ => by simp
  | n :: l, f, hn, q, k, hk => by
    rw [List.foldl_cons, words_bit l (upd f n) (fun m hm => hn m (by simp [hm])) q k hk]
    have h0 := hn n (by simp)
    unfold upd
    by_cases h1 : q = (n / 64).toNat
    · rw [if_pos h1, Nat.testBit_or, Bool.or_assoc]
      congr 1
      rw [Nat.testBit_two_pow, Bool.eq_iff_iff]
      simp only [Bool.or_eq_true, decide_eq_true_eq, List.mem_cons]
      constructor
      · rintro (h | h)
        · left; omega
        · exact .inr h
      · rintro (h | h)
        · left; omega
        · exact .inr h
    · rw [if_neg h1]
      congr 1
      rw [Bool.eq_iff_iff]
      simp only [decide_eq_true_eq, List.mem_cons]
      constructor
      · exact .inr
      · rintro (h | h)
        · exfalso; exact h1 (by omega)
        · exact h
theorem wordsOf_bit {l : List Int} (h : ∀ n ∈ l, 0 ≤ n) {q k : Nat} (hk : k < 64) : (wordsOf l q).testBit k = decide (((64 * q + k : Nat) : Int) ∈ l) := by
  unfold wordsOf
  rw [words_bit l _ h q k hk]
  simp

/-- the words that are not 0, with their places -/
def setW (f : Nat → Nat) (m : Nat) : List Wd := (List.range m).filterMap fun q => if f q = 0 then none else some ((q : Int), (f q : Int))
theorem setW_succ (f : Nat → Nat) (m : Nat) : setW f (m + 1) = setW f m ++ (if f m = 0 then [] else [((m : Int), (f m : Int))]) := by
  unfold setW
  rw [List.range_succ, List.filterMap_append]
  congr 1
  simp only [List.filterMap_cons, List.filterMap_nil]
  split <;> simp_all
theorem setW_mem {f : Nat → Nat} {m : Nat} {x : Wd} (h : x ∈ setW f m) : ∃ q, q < m ∧ f q ≠ 0 ∧ x = ((q : Int), (f q : Int)) := by
  unfold setW at h
  obtain ⟨q, hq, hx⟩ := List.mem_filterMap.1 h
  split at hx
  · cases hx
  · exact ⟨q, List.mem_range.1 hq, by assumption, (Option.some.inj hx).symm⟩
theorem setW_length (f : Nat → Nat) (m : Nat) : (setW f m).length ≤ m := by
  unfold setW
  have := List.length_filterMap_le (fun q => if f q = 0 then none else some ((q : Int), (f q : Int))) (List.range m)
  simpa using this
theorem setW_may {f : Nat → Nat} (hf : ∀ q, f q < 2 ^ 64) : ∀ {m : Nat}, m ≤ 16384 → MayW (setW f m)
  | 0, _ => mayw_nil
  | m + 1, hm => by
    have ih := setW_may hf (m := m) (by omega)
    have e : (2 : Nat) ^ 64 = 18446744073709551616 := by decide
    have hfm := hf m
    rw [setW_succ]
    split
    · rw [List.append_nil]; exact ih
    · refine ⟨fun x hx => ?_, ?_⟩
      · rcases List.mem_append.1 hx with hx | hx
        · exact ih.1 x hx
        · rw [List.mem_singleton.1 hx]
          exact ⟨by simp only; omega, by simp only; omega, by simp only; omega, by simp only; omega⟩
      · rw [List.pairwise_append]
        refine ⟨ih.2, by simp, fun x hx y hy => ?_⟩
        obtain ⟨q, hq, _, rfl⟩ := setW_mem hx
        rw [List.mem_singleton.1 hy]
        simp only; omega
theorem inS_append {s t : List Wd} {n : Int} : inS (s ++ t) n = if ∃ x ∈ s, x.1 = n / 64 then inS s n else inS t n := by
  induction s with
  | nil => simp
  | cons x s ih =>
    rw [List.cons_append, inS_cons, inS_cons, ih]
    by_cases h : x.1 = n / 64
    · simp [h]
    · rw [if_neg h, if_neg h]
      have e : (∃ y ∈ x :: s, y.1 = n / 64) ↔ (∃ y ∈ s, y.1 = n / 64) := by simp [h]
      simp only [e]
theorem inS_setW {f : Nat → Nat} (m : Nat) {n : Int} (h0 : 0 ≤ n) : inS (setW f m) n = (decide (n / 64 < m) && (f (n / 64).toNat).testBit (n % 64).toNat) := by
  induction m with
  | zero => simp [setW, inS]; omega
  | succ m ih =>
    rw [setW_succ, inS_append]
    split
    · rename_i hx
      obtain ⟨x, hx, he⟩ := hx
      obtain ⟨q, hq, _, rfl⟩ := setW_mem hx
      simp only at he
      rw [ih, show decide (n / 64 < (m : Int)) = true by simp; omega, show decide (n / 64 < ((m + 1 : Nat) : Int)) = true by simp; omega]
    · rename_i hx
      by_cases h1 : n / 64 = (m : Int)
      · rw [show decide (n / 64 < ((m + 1 : Nat) : Int)) = true by simp; omega, Bool.true_and, show (n / 64).toNat = m by omega]
        split
        · rename_i hz
          rw [hz]; simp [inS]
        · rw [inS_cons, if_pos h1.symm, bitOf_testBit]
      · have hr : inS (if f m = 0 then [] else [((m : Int), (f m : Int))]) n = false := by
          split
          · rfl
          · rw [inS_cons, if_neg (fun e => h1 e.symm)]; rfl
        rw [hr]
        by_cases h2 : n / 64 < (m : Int)
        · have hz : inS (setW f m) n = false := inS_out fun x hx2 e => hx ⟨x, hx2, e⟩
          rw [ih] at hz
          rw [show decide (n / 64 < ((m + 1 : Nat) : Int)) = true by simp; omega]
          rw [show decide (n / 64 < (m : Int)) = true by simp; omega] at hz
          exact hz.symm
        · rw [show decide (n / 64 < ((m + 1 : Nat) : Int)) = false by simp; omega]; rfl

/-- the greatest -/
def mx (l : List Int) : Int := l.foldl max 0
theorem mx_succ {l : List Int} {k : Nat} (h : k < l.length) : mx (l.take (k + 1)) = max (mx (l.take k)) l[k] := by
  unfold mx; rw [List.take_succ_eq_append_getElem h, List.foldl_append]; rfl
theorem fmax : ∀ (l : List Int) (a : Int), a ≤ l.foldl max a ∧ ∀ n ∈ l, n ≤ l.foldl max a
  | [], a => ⟨Int.le_refl _, fun n h => by cases h⟩
  | x :: l, a => by
    obtain ⟨h1, h2⟩ := fmax l (max a x)
    rw [List.foldl_cons]
    refine ⟨by omega, fun n hn => ?_⟩
    rcases List.mem_cons.1 hn with rfl | hn
    · omega
    · exact h2 n hn
theorem fmax_lt : ∀ (l : List Int) (a b : Int), a < b → (∀ n ∈ l, n < b) → l.foldl max a < b
  | [], _, _, h, _ => h
  | x :: l, a, b, h, hl => by
    rw [List.foldl_cons]
    exact fmax_lt l _ _ (by have := hl x (by simp); omega) (fun n hn => hl n (by simp [hn]))
theorem mx_le (l : List Int) : 0 ≤ mx l ∧ ∀ n ∈ l, n ≤ mx l := fmax l 0
theorem mx_lt {l : List Int} (h : ∀ n ∈ l, 0 ≤ n ∧ n < 1048576) : mx l < 1048576 := fmax_lt l 0 _ (by omega) (fun n hn => (h n hn).2)

theorem set_of {l : List Int} (h : ∀ n ∈ l, 0 ≤ n ∧ n < 1048576) : setW (wordsOf l) ((mx l / 64).toNat + 1) = withAll [] l := by
  have h1 := mx_lt h
  have h2 := (mx_le l).1
  refine ext (setW_may (wordsOf_lt l) (by omega)) (all_may l mayw_nil h) fun n n0 n1 => ?_
  rw [inS_setW _ n0, inS_all l mayw_nil h n n0, wordsOf_bit (fun m hm => (h m hm).1) (by omega)]
  rw [show ((64 * (n / 64).toNat + (n % 64).toNat : Nat) : Int) = n by omega]
  simp only [inS, Bool.false_or]
  by_cases hn : n ∈ l
  · have := (mx_le l).2 n hn
    rw [show decide (n / 64 < (((mx l / 64).toNat + 1 : Nat) : Int)) = true by simp; omega]; rfl
  · simp [hn]

/-! how the words lie in memory -/
def wordCells (f : Nat → Nat) (m : Nat) : Array Value := ((List.range m).map fun q => Value.int .u64 (f q : Int)).toArray
theorem wordCells_size (f : Nat → Nat) (m : Nat) : (wordCells f m).size = m := by simp [wordCells]
theorem wordCells_at {f : Nat → Nat} {m q : Nat} (h : q < m) : (wordCells f m)[q]? = some (.int .u64 (f q : Int)) := by simp [wordCells, h]
theorem wordCells_zero (m : Nat) : madeCells (Value.int .u64 0).cells m = wordCells (fun _ => 0) m := by
  apply Array.ext_getElem?
  intro q
  by_cases h : q < m
  · rw [wordCells_at h]
    simp [madeCells, h, Value.cells, Nat.mod_one]
  · rw [Array.getElem?_eq_none (by rw [size_madeCells]; omega), Array.getElem?_eq_none (by rw [wordCells_size]; omega)]
theorem words_cell {w : World} {B : Nat} {f : Nat → Nat} {m q : Nat} {t : TypeId} (h : w.heap[B]? = some (.cells (wordCells f m) t (0, 0))) (hq : q < m) : w.cell? ⟨B, q, none⟩ = some (.int .u64 (f q : Int)) := by
  unfold World.cell?
  rw [h]
  have := wordCells_at (f := f) hq
  simpa using this
theorem words_frozen {w : World} {B : Nat} {f : Nat → Nat} {m q : Nat} {t : TypeId} (h : w.heap[B]? = some (.cells (wordCells f m) t (0, 0))) : w.frozen? ⟨B, q, none⟩ = false := by
  simp [World.frozen?, h]
theorem words_set {w : World} {B : Nat} {f g : Nat → Nat} {m q : Nat} {t : TypeId} (h : w.heap[B]? = some (.cells (wordCells f m) t (0, 0))) (hg : ∀ p, p < m → g p = if p = q then g q else f p) :
    (w.setCell ⟨B, q, none⟩ (.int .u64 (g q : Int))).heap[B]? = some (.cells (wordCells g m) t (0, 0)) := by
  obtain ⟨hlt, hk⟩ := Array.getElem?_eq_some_iff.1 h
  have e : wordCells g m = (wordCells f m).setIfInBounds q (.int .u64 (g q : Int)) := by
    apply Array.ext_getElem?
    intro p
    rw [Array.getElem?_setIfInBounds]
    by_cases hp : p < m
    · rw [wordCells_at hp]
      by_cases e : q = p
      · subst e
        rw [if_pos rfl, if_pos (by rw [wordCells_size]; exact hp)]
      · rw [if_neg e, wordCells_at hp, hg p hp, if_neg (fun h => e h.symm)]
    · rw [Array.getElem?_eq_none (by rw [wordCells_size]; omega)]
      split
      · rename_i e
        rw [if_neg (by rw [wordCells_size]; omega)]
      · rw [Array.getElem?_eq_none (by rw [wordCells_size]; omega)]
  show (w.heap.modify B _)[B]? = _
  rw [Array.getElem?_eq_getElem (by rw [Array.size_modify]; exact hlt), Array.getElem_modify_self, hk, e]
  rfl

theorem may_calls (n : Int) (w : World) : Calls Tryd.prog 26 #[.int .i64 n] w fun e w' => e = .returned (.bool (decide (0 ≤ n ∧ n < 1048576))) ∧ w = w' := by
  by_cases h0 : 0 ≤ n
  · by_cases h1 : n < 1048576
    · have HD := hid (decide_eq_true (p := 0 ≤ n ∧ n < 1048576) ⟨h0, h1⟩)
      rw [HD.out]
      go_enter Tryd.func26, Tryd.ntmps26
      go_wp2
      go_ret
      exact ⟨rfl, rfl⟩
    · have HD := hid (decide_eq_false (p := 0 ≤ n ∧ n < 1048576) (fun h => h1 h.2))
      rw [HD.out]
      go_enter Tryd.func26, Tryd.ntmps26
      go_wp2
      go_ret
      exact ⟨rfl, rfl⟩
  · have HD := hid (decide_eq_false (p := 0 ≤ n ∧ n < 1048576) (fun h => h0 h.1))
    rw [HD.out]
    go_enter Tryd.func26, Tryd.ntmps26
    go_wp2
    go_ret
    exact ⟨rfl, rfl⟩
end Go.Proofs.YtecfjjpdlohmnaaDoor.BitOfP
