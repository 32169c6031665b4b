/- What the call's own slices are: as sets and lists of ints in memory. -/
import Derived.Test.YtecfjjpdlohmnaaDoorSetP
namespace Go.Proofs.YtecfjjpdlohmnaaDoor.SetO
open Go.RowKit Go.Lib SetP

def intVals (l : List Int) : List Value := l.map (Value.int .i64)
def wdVals (s : List Wd) : List Value := s.flatMap fun x => [.int .i64 x.1, .int .u64 x.2]
theorem intVals_length (l : List Int) : (intVals l).length = l.length := by simp [intVals]
theorem wdVals_length : ∀ (s : List Wd), (wdVals s).length = s.length * 2
  | [] => rfl
  | x :: s => by
    have := wdVals_length s
    simp only [wdVals, List.flatMap_cons, List.length_append, List.length_cons, List.length_nil] at this ⊢
    omega
theorem wdVals_append (s t : List Wd) : wdVals (s ++ t) = wdVals s ++ wdVals t := by simp [wdVals]
theorem wdVals_at : ∀ (s : List Wd) (i : Nat) (h : i < s.length), (wdVals s)[i * 2]? = some (.int .i64 s[i].1) ∧ (wdVals s)[i * 2 + 1]? = some (.int .u64 s[i].2)
  | x :: s, 0, _ => by simp [wdVals]
  | x :: s, i + 1, h => by
    have ih := wdVals_at s i (by simpa using h)
    simp only [wdVals, List.flatMap_cons, List.cons_append, List.nil_append] at ih ⊢
    rw [show (i + 1) * 2 = i * 2 + 1 + 1 by omega, List.getElem?_cons_succ, List.getElem?_cons_succ, List.getElem?_cons_succ, List.getElem?_cons_succ]
    simpa using ih

theorem intsAt_of_owns {w : World} {B : Nat} {e : TypeId} {v : Value} {n : Nat} {l : List Int} (h : w.ownsRow B e 1 v n (intVals l)) (hl : l.length ≤ 9223372036854775807) : IntsAt w v l := by
  obtain ⟨h1, h2⟩ := h
  rw [intVals_length] at h1
  obtain rfl : n = l.length := by omega
  rcases h2 with ⟨rfl, h0⟩ | ⟨g, cap, cur, rfl, hb, hg, hnc, hcm, hcs, ht⟩
  · exact ⟨none, 0, by rw [h0], hl, fun h => by omega, fun _ => rfl⟩
  · refine ⟨some ⟨g, 0, none⟩, cap, rfl, hl, fun _ => ⟨g, 0, rfl, (Array.getElem?_eq_some_iff.1 hg).1, fun i hi => ?_⟩, fun h => by cases h⟩
    unfold World.cell?
    rw [hg]
    have : (intVals l)[i]? = some (.int .i64 l[i]) := by simp [intVals, hi]
    rw [← ht, List.getElem?_take, if_pos (by omega)] at this
    simpa using this

theorem setAt_of_owns {w : World} {B : Nat} {e : TypeId} {v : Value} {n : Nat} {s : List Wd} (h : w.ownsRow B e 2 v n (wdVals s)) (hl : s.length ≤ 9223372036854775807) : SetAt w v s := by
  obtain ⟨h1, h2⟩ := h
  rw [wdVals_length] at h1
  obtain rfl : n = s.length := by omega
  rcases h2 with ⟨rfl, h0⟩ | ⟨g, cap, cur, rfl, hb, hg, hnc, hcm, hcs, ht⟩
  · exact ⟨none, 0, by rw [h0], hl, fun h => by omega, fun _ => rfl, by omega⟩
  · refine ⟨some ⟨g, 0, none⟩, cap, rfl, hl, fun _ => ⟨g, 0, rfl, (Array.getElem?_eq_some_iff.1 hg).1, fun i hi => ?_⟩, (fun h => by cases h), hnc⟩
    obtain ⟨e1, e2⟩ := wdVals_at s i hi
    unfold World.cell?
    rw [hg]
    rw [← ht, List.getElem?_take, if_pos (by omega)] at e1
    rw [← ht, List.getElem?_take, if_pos (by omega)] at e2
    exact ⟨by simpa using e1, by simpa using e2⟩

theorem info_int : (Tryd.prog.info? 3).map (fun i => (i.zero, i.size, i.bytes)) = some (some (.int .i64 0), 1, 8) := by kernel_rfl
theorem info_wd : (Tryd.prog.info? 34).map (fun i => (i.zero, i.size, i.bytes)) = some (some (.agg #[.int .i64 0, .int .u64 0]), 2, 16) := by kernel_rfl

/-- a word's numbers below k -/
def bitNums (a : Int) (y : Nat) (k : Nat) : List Int := ((List.range k).filter fun n => decide (y / 2 ^ n % 2 = 1)).map fun (n : Nat) => 64 * a + (n : Int)
theorem bitNums_succ (a : Int) (y k : Nat) : bitNums a y (k + 1) = bitNums a y k ++ (if y / 2 ^ k % 2 = 1 then [64 * a + (k : Int)] else []) := by
  unfold bitNums
  rw [List.range_succ, List.filter_append, List.map_append]
  by_cases h : y / 2 ^ k % 2 = 1 <;> simp [h]
theorem bitNums_length (a : Int) (y k : Nat) : (bitNums a y k).length ≤ k := by
  unfold bitNums
  rw [List.length_map]
  exact Nat.le_trans (List.length_filter_le _ _) (by simp)
def numbers (s : List Wd) : List Int := s.flatMap fun x => bitNums x.1 x.2.toNat 64
theorem numbers_append (s t : List Wd) : numbers (s ++ t) = numbers s ++ numbers t := by simp [numbers]
theorem numbers_length : ∀ (s : List Wd), (numbers s).length ≤ s.length * 64
  | [] => by simp [numbers]
  | x :: s => by
    have := numbers_length s
    have h2 := bitNums_length x.1 x.2.toNat 64
    simp only [numbers, List.flatMap_cons, List.length_append, List.length_cons] at this ⊢
    omega
theorem numbers_take {s : List Wd} {k : Nat} (h : k < s.length) : numbers (s.take (k + 1)) = numbers (s.take k) ++ bitNums s[k].1 s[k].2.toNat 64 := by
  rw [List.take_succ_eq_append_getElem h, numbers_append]
  simp [numbers]
end Go.Proofs.YtecfjjpdlohmnaaDoor.SetO
