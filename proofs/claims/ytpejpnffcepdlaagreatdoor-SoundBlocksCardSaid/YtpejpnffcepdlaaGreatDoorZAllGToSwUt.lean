/- Of the first ones of a list. What a function says of the first ones of a list. -/
import Derived.WalkKit
namespace Go.Proofs.YtpejpnffcepdlaaGreatDoor.SwPh

def AllG {α : Type} (q : α → Bool) (l : List α) (n : Nat) : Prop := ∀ i u, i < n → l[i]? = some u → q u = true
theorem allG_next {α : Type} {q : α → Bool} {l : List α} {n : Nat} {u : α} (h : AllG q l n) (hu : l[n]? = some u) (hq : q u = true) : AllG q l (n + 1) := by
 intro i y hi hy
 by_cases e : i = n
 ·subst e; rw [hu] at hy; cases hy; exact hq
 ·exact h i y (by omega) hy
theorem allG_all {α : Type} {q : α → Bool} {l : List α} (h : AllG q l l.length) : l.all q = true := by
 rw [List.all_eq_true]
 intro y hy
 obtain ⟨i, hi, e⟩ := List.getElem_of_mem hy
 exact h i y hi (by rw [List.getElem?_eq_getElem hi, e])
theorem allG_not {α : Type} {q : α → Bool} {l : List α} {n : Nat} {u : α} (hu : l[n]? = some u) (hq : q u = false) : l.all q = false := by
 rw [← Bool.not_eq_true, List.all_eq_true]
 intro h
 rw [h u (List.mem_of_getElem? hu)] at hq
 cases hq
end Go.Proofs.YtpejpnffcepdlaaGreatDoor.SwPh
namespace Go.Proofs.YtpejpnffcepdlaaGreatDoor.SwU

/-- the types of the first n -/
def tyTake (q : Int → Int) (l : List Int) (n : Nat) : List Int := (l.take n).map q
theorem tyTake_len {q : Int → Int} {l : List Int} {n : Nat} (h : n ≤ l.length) : (tyTake q l n).length = n := by unfold tyTake; rw [List.length_map, List.length_take]; omega
theorem tyTake_next {q : Int → Int} {l : List Int} {n : Nat} {u : Int} (h : l[n]? = some u) : tyTake q l (n + 1) = tyTake q l n ++ [q u] := by
 obtain ⟨hk, he⟩ := List.getElem?_eq_some_iff.1 h
 unfold tyTake
 rw [List.take_succ_eq_append_getElem hk, he, List.map_append]
 rfl
theorem tyTake_all {q : Int → Int} {l : List Int} : tyTake q l l.length = l.map q := by unfold tyTake; rw [List.take_length]
end Go.Proofs.YtpejpnffcepdlaaGreatDoor.SwU
