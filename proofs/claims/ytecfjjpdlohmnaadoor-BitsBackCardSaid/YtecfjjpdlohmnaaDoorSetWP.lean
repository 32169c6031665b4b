/- Plain facts: what fescueref02.With answers. -/
import Derived.Test.YtecfjjpdlohmnaaDoorSetNum
import Derived.Test.YtecfjjpdlohmnaaDoorSetIn
namespace Go.Proofs.YtecfjjpdlohmnaaDoor.SetWith
open Go.RowKit Go.Lib SetP SetO SetNum SetIn

/-- a round of With's loop -/
def wstep (a b : Int) (st : List Wd × Bool) (x : Wd) : List Wd × Bool :=
  if x.1 = a then (st.1 ++ [(x.1, x.2 + b)], true)
  else if a < x.1 ∧ st.2 = false then (st.1 ++ [(a, b), x], true)
  else (st.1 ++ [x], st.2)
def wfold (a b : Int) (s : List Wd) : List Wd × Bool := s.foldl (wstep a b) ([], false)
theorem wfold_succ (a b : Int) {s : List Wd} {k : Nat} (h : k < s.length) : wfold a b (s.take (k + 1)) = wstep a b (wfold a b (s.take k)) s[k] := by
  unfold wfold; rw [List.take_succ_eq_append_getElem h, List.foldl_append]; rfl
theorem wfold_length (a b : Int) : ∀ (s : List Wd) (st : List Wd × Bool), (s.foldl (wstep a b) st).1.length ≤ st.1.length + 2 * s.length
  | [], st => by simp
  | x :: s, st => by
    have := wfold_length a b s (wstep a b st x)
    have h2 : (wstep a b st x).1.length ≤ st.1.length + 2 := by
      unfold wstep; split
      · simp
      · split <;> simp
    simp only [List.foldl_cons, List.length_cons]; omega
/-- what With answers -/
def withS (s : List Wd) (n : Int) : List Wd :=
  if inS s n = true then s
  else
    let st := wfold (n / 64) ((2 ^ (n % 64).toNat : Nat) : Int) s
    if st.2 = true then st.1 else st.1 ++ [(n / 64, ((2 ^ (n % 64).toNat : Nat) : Int))]
/-- what is answered: a slice of the call's own, that owns these words -/
def OwnS (s : List Wd) (w : World) (e : Ending) (w' : World) : Prop := ∃ u m, e = .returned u ∧ w'.ownsRow w.heap.size 34 2 u m (wdVals s) ∧ Below w.heap.size w w'
def Fits (s : List Wd) (n : Int) : Prop := ∀ i (h : i < s.length), s[i].1 = n / 64 → s[i].2 + ((2 ^ (n % 64).toNat : Nat) : Int) ≤ 18446744073709551615
end Go.Proofs.YtecfjjpdlohmnaaDoor.SetWith
