/- Plain facts: a set with all of a list. -/
import Derived.Test.YtecfjjpdlohmnaaDoorSetV
namespace Go.Proofs.YtecfjjpdlohmnaaDoor.SetF
open Go.RowKit Go.Lib SetP SetO SetNum SetIn SetWith SetT SetW2

/-- a set with all of a list -/
def withAll (s : List Wd) (l : List Int) : List Wd := l.foldl withS s
theorem withAll_succ (s : List Wd) {l : List Int} {k : Nat} (h : k < l.length) : withAll s (l.take (k + 1)) = withS (withAll s (l.take k)) l[k] := by
  unfold withAll; rw [List.take_succ_eq_append_getElem h, List.foldl_append]; rfl
theorem all_may : ∀ (l : List Int) {s : List Wd}, MayW s → (∀ n ∈ l, 0 ≤ n ∧ n < 1048576) → MayW (withAll s l)
  | [], _, hm, _ => hm
  | n :: l, s, hm, h => all_may l (with_may (h n (by simp)).1 (h n (by simp)).2 hm) (fun m hm => h m (by simp [hm]))
theorem inS_all : ∀ (l : List Int) {s : List Wd}, MayW s → (∀ n ∈ l, 0 ≤ n ∧ n < 1048576) → ∀ m, 0 ≤ m → inS (withAll s l) m = (inS s m || decide (m ∈ l))
  | [], s, _, _, m, _ => by simp [withAll]
  | n :: l, s, hm, h, m, h0 => by
    have := inS_all l (s := withS s n) (with_may (h n (by simp)).1 (h n (by simp)).2 hm) (fun m hm => h m (by simp [hm])) m h0
    show inS (withAll (withS s n) l) m = _
    rw [this, inS_with (h n (by simp)).1 h0 hm]
    by_cases h1 : m = n <;> by_cases h2 : m ∈ l <;> simp [h1, h2]

/-- a set, and an error -/
def OwnSR (s : List Wd) (er : Int) (w : World) (e : Ending) (w' : World) : Prop := ∃ u m, e = .returned (.tuple #[u, .int .i64 er]) ∧ w'.ownsRow w.heap.size 34 2 u m (wdVals s) ∧ Below w.heap.size w w'
end Go.Proofs.YtecfjjpdlohmnaaDoor.SetF
