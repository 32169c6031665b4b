/- Tables of types that a call owns. -/
import Derived.Test.YtkcocgdgmlmflaaGreatDoorZIntOToAft
import Derived.RangeFuncBox
import Derived.Laws.OwnMore
namespace Go.Proofs.YtkcocgdgmlmflaaGreatDoor.TyW
open Go.RowKit Go.Lib SetP IntO TyM TyP

/-- a type, and the value of its parts -/
abbrev Row := Ty × Value
def rowVals (r : List Row) : List Value := r.flatMap fun x => [.int .u8 x.1.kind, .int .i64 x.1.elem, .int .i64 x.1.many, x.2]
theorem rowVals_length : ∀ (r : List Row), (rowVals r).length = r.length * 4
  | [] => rfl
  | x :: r => by
    have := rowVals_length r
    simp only [rowVals, List.flatMap_cons, List.length_append, List.length_cons, List.length_nil] at this ⊢
    omega
theorem rowVals_append (a b : List Row) : rowVals (a ++ b) = rowVals a ++ rowVals b := by simp [rowVals]
theorem rowVals_at : ∀ (r : List Row) (i : Nat) (h : i < r.length), (rowVals r)[i * 4]? = some (.int .u8 r[i].1.kind) ∧ (rowVals r)[i * 4 + 1]? = some (.int .i64 r[i].1.elem) ∧ (rowVals r)[i * 4 + 2]? = some (.int .i64 r[i].1.many) ∧ (rowVals r)[i * 4 + 3]? = some r[i].2
  | x :: r, 0, _ => by simp [rowVals]
  | x :: r, i + 1, h => by
    have ih := rowVals_at r i (by simpa using h)
    have e : rowVals (x :: r) = .int .u8 x.1.kind :: .int .i64 x.1.elem :: .int .i64 x.1.many :: x.2 :: rowVals r := by simp [rowVals]
    rw [e, show (i + 1) * 4 = i * 4 + 1 + 1 + 1 + 1 by omega]
    simpa using ih
theorem row_split {j n : Nat} (h : j < n * 4) : ∃ i c, i < n ∧ c < 4 ∧ j = i * 4 + c := ⟨j / 4, j % 4, by omega, by omega, by omega⟩

/-- the rows of a table that lies in memory -/
theorem tys_rows {w : World} {v : Value} {t : List Ty} (h : TysAt w v t) : ∃ (r : List Row) (ao : Option Addr) (cap : Nat), r.map Prod.fst = t ∧ v = .slice ao r.length cap ∧ (ao = none → cap = 0) ∧ r.length ≤ cap ∧
    (∀ x ∈ r, IntsAt w x.2 x.1.parts) ∧ (0 < r.length → ∃ b off, ao = some ⟨b, off, none⟩ ∧ b < w.heap.size ∧ ∀ j u, (rowVals r)[j]? = some u → w.cell? ⟨b, off + j, none⟩ = some u) := by
  obtain ⟨ao, cap, rfl, hl, hm, hz, hc⟩ := h
  by_cases h0 : 0 < t.length
  · obtain ⟨b, off, rfl, hlt, hx⟩ := hm h0
    let X : Nat → Row := fun i => if h : i < t.length then (t[i], Classical.choose (hx i h)) else (default, undef)
    have hX : ∀ i (h : i < t.length), X i = (t[i], Classical.choose (hx i h)) := fun i h => by simp [X, h]
    have hlen : ((List.range t.length).map X).length = t.length := by simp
    refine ⟨(List.range t.length).map X, some ⟨b, off, none⟩, cap, ?_, by rw [hlen], hz, by rw [hlen]; exact hc, ?_, fun _ => ⟨b, off, rfl, hlt, ?_⟩⟩
    · apply List.ext_getElem (by simp)
      intro i h1 h2
      simp [hX i h2]
    · intro x hxm
      obtain ⟨i, hi, rfl⟩ := List.mem_map.1 hxm
      have hi' : i < t.length := by simpa using hi
      rw [hX i hi']
      exact (Classical.choose_spec (hx i hi')).2.2.2.2
    · intro j u hj
      have hjl := (List.getElem?_eq_some_iff.1 hj).1
      rw [rowVals_length, hlen] at hjl
      obtain ⟨i, c, hi, hc4, rfl⟩ := row_split hjl
      obtain ⟨e0, e1, e2, e3⟩ := rowVals_at ((List.range t.length).map X) i (by rw [hlen]; exact hi)
      have hXi : ((List.range t.length).map X)[i]'(by rw [hlen]; exact hi) = (t[i], Classical.choose (hx i hi)) := by simp [hX i hi]
      rw [hXi] at e0 e1 e2 e3
      obtain ⟨k0, k1, k2, k3, _⟩ := Classical.choose_spec (hx i hi)
      have hcc : c = 0 ∨ c = 1 ∨ c = 2 ∨ c = 3 := by omega
      rcases hcc with rfl | rfl | rfl | rfl
      · rw [Nat.add_zero, e0] at hj; rw [← hj]; exact k0
      · rw [e1] at hj; rw [← hj]; exact k1
      · rw [e2] at hj; rw [← hj]; exact k2
      · rw [e3] at hj; rw [← hj]; exact k3
  · obtain rfl : t = [] := List.eq_nil_of_length_eq_zero (by omega)
    exact ⟨[], ao, cap, rfl, rfl, hz, by simp, by simp, fun h => absurd h (by simp)⟩

/-- rows that a call owns: the table's cells, and each type's parts -/
def OwnT (B : Nat) (v : Value) (r : List Row) (w : World) : Prop :=
  w.ownsRow B 78 4 v r.length (rowVals r) ∧ ∀ x ∈ r, w.ownsRow B 3 1 x.2 x.1.parts.length (intVals x.1.parts)
theorem OwnT.below {B : Nat} {v : Value} {r : List Row} {w w' : World} (h : OwnT B v r w) (hb : Below w.heap.size w w') : OwnT B v r w' := ⟨ownsRow_below h.1 hb, fun x hx => ownsRow_below (h.2 x hx) hb⟩
theorem OwnT.base {B C : Nat} {v : Value} {r : List Row} {w : World} (h : OwnT B v r w) (hb : C ≤ B) : OwnT C v r w := ⟨owns_base h.1 hb, fun x hx => owns_base (h.2 x hx) hb⟩
theorem row_cells {w : World} {B : Nat} {ty : TypeId} {size n : Nat} {v : Value} {xs : List Value} (h : w.ownsRow B ty size v n xs) (hx : 0 < xs.length) : ∃ g cap, v = .slice (some ⟨g, 0, none⟩) n cap ∧ B ≤ g ∧ g < w.heap.size ∧ n ≤ cap ∧ ∀ j u, xs[j]? = some u → w.cell? ⟨g, j, none⟩ = some u := by
  rcases h.2 with ⟨_, h0⟩ | ⟨g, cap, cur, rfl, hg, hb, hn, hm, hs, ht⟩
  · have := h.1; rw [h0] at this; omega
  · refine ⟨g, cap, rfl, hg, (Array.getElem?_eq_some_iff.1 hb).1, hn, fun j u hj => ?_⟩
    unfold World.cell?
    rw [hb]
    have hj2 := hj
    rw [← ht, List.getElem?_take, if_pos (by have := (List.getElem?_eq_some_iff.1 hj).1; have := h.1; omega)] at hj2
    simpa using hj2
theorem OwnT.tys {B : Nat} {v : Value} {r : List Row} {w : World} (h : OwnT B v r w) (hr : r.length ≤ 100000) (hp : ∀ x ∈ r, x.1.parts.length ≤ 100000) : TysAt w v (r.map Prod.fst) := by
  by_cases h0 : 0 < r.length
  · obtain ⟨g, cap, rfl, hg, hlt, hn, hc⟩ := row_cells h.1 (by rw [rowVals_length]; omega)
    refine ⟨some ⟨g, 0, none⟩, cap, by simp, by simp; omega, fun _ => ⟨g, 0, rfl, hlt, fun i hi => ?_⟩, (fun e => by cases e), by simpa using hn⟩
    have hi' : i < r.length := by simpa using hi
    obtain ⟨e0, e1, e2, e3⟩ := rowVals_at r i hi'
    rw [List.getElem_map]
    rw [Nat.zero_add]
    exact ⟨r[i].2, hc _ _ e0, hc _ _ e1, hc _ _ e2, hc _ _ e3, intsAt_of_owns (h.2 _ (List.getElem_mem hi')) (by have := hp _ (List.getElem_mem hi'); omega)⟩
  · obtain rfl : r = [] := List.eq_nil_of_length_eq_zero (by omega)
    rcases h.1.2 with ⟨rfl, _⟩ | ⟨g, cap, cur, rfl, hg, hb, hn, hm, hs, ht⟩
    · exact ⟨none, 0, rfl, by simp, (fun h => by simp at h), (fun _ => rfl), by simp⟩
    · exact ⟨some ⟨g, 0, none⟩, cap, rfl, by simp, (fun h => by simp at h), (fun e => by cases e), by simp⟩

theorem own_ne {w : World} {B C : Nat} {e f : TypeId} {s1 s2 n m g c : Nat} {v : Value} {xs ys : List Value} (h : w.ownsRow B e s1 v n xs) (k : w.ownsRow C f s2 (.slice (some ⟨g, 0, none⟩) m c) m ys) (hef : e ≠ f) : v.ownBlock ≠ some g := by
  intro hg
  rcases h.2 with ⟨rfl, _⟩ | ⟨g1, _, _, rfl, _, h1, _⟩
  · cases hg
  · obtain rfl : g1 = g := by simpa [Value.ownBlock] using hg
    rcases k.2 with ⟨hh, _⟩ | ⟨g2, _, _, hh, _, h2, _⟩
    · cases hh
    · cases hh
      rw [h1] at h2
      simp at h2
      exact hef h2.2
theorem set_len {r : List Row} {k : Nat} {x : Row} : (r.set k x).length = r.length := by simp
/-- one type's parts, stored -/
theorem vals_set : ∀ (r : List Row) (k : Nat) (h : k < r.length) (v : Value), (rowVals r).set (k * 4 + 3) v = rowVals (r.set k (r[k].1, v))
  | x :: r, 0, _, v => by simp [rowVals]
  | x :: r, k + 1, h, v => by
    have ih := vals_set r k (by simpa using h) v
    have ea : ∀ (z : Row) (l : List Row), rowVals (z :: l) = .int .u8 z.1.kind :: .int .i64 z.1.elem :: .int .i64 z.1.many :: z.2 :: rowVals l := fun z l => by simp [rowVals]
    rw [ea, show (k + 1) * 4 + 3 = (k * 4 + 3) + 1 + 1 + 1 + 1 by omega]
    simp only [List.set_cons_succ, List.getElem_cons_succ]
    rw [ea, ih]
theorem map_set {r : List Row} {k : Nat} (h : k < r.length) (v : Value) : (r.set k (r[k].1, v)).map Prod.fst = r.map Prod.fst := by
  apply List.ext_getElem (by simp)
  intro i h1 h2
  simp only [List.getElem_map, List.getElem_set]
  split
  · rename_i e; subst e; rfl
  · rfl
end Go.Proofs.YtkcocgdgmlmflaaGreatDoor.TyW
