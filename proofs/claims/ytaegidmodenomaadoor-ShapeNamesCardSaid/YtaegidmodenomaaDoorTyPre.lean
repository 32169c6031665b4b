/- Two lists, the first ones of them alike. -/
import Derived.Test.YtaegidmodenomaaDoorTyB
namespace Go.Proofs.YtaegidmodenomaaDoor.TyQ
open Go.RowKit Go.Lib Go.Shelf SetP IntO TyM TyP TyB

theorem below_drewN {B : Nat} {w w1 : World} (h : Below B w w1) : ∀ n, Below B w (w1.drewN n)
  | 0 => h
  | n + 1 => (below_drewN h n).drew

/-- a list's first ones are another's -/
def Pre {α : Type} (a b : List α) (k : Nat) : Prop := a.take k = b.take k
theorem pre_succ {α : Type} {a b : List α} {k : Nat} (ha : k < a.length) (hb : k < b.length) (h : Pre a b k) (he : a[k] = b[k]) : Pre a b (k + 1) := by
  unfold Pre at *
  rw [List.take_succ_eq_append_getElem ha, List.take_succ_eq_append_getElem hb, h, he]
theorem pre_all {α : Type} {a b : List α} (hl : a.length = b.length) (h : Pre a b a.length) : a = b := by
  unfold Pre at h
  rwa [List.take_length, hl, List.take_length] at h
theorem ne_at {α : Type} {a b : List α} {k : Nat} (ha : k < a.length) (hb : k < b.length) (h : a[k] ≠ b[k]) : a ≠ b := by
  intro e; subst e; exact h rfl

end Go.Proofs.YtaegidmodenomaaDoor.TyQ
