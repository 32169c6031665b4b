/- append(api.Set{}, s...) and append([]int{}, l...): a copy of whatever set or list lies in memory; and how such copies are carried on. -/
import Derived.Test.YtecfjjpdlohmnaaDoorSetV
import Derived.Laws.AppendOwnNone
namespace Go.Proofs.YtecfjjpdlohmnaaDoor.BitClone
open Go.RowKit Go.Lib SetP SetO SetNum SetIn SetWith SetT SetW2

theorem ownsRow_below {w w' : World} {base : Nat} {e : TypeId} {size : Nat} {v : Value} {n : Nat} {xs : List Value} (h : w.ownsRow base e size v n xs) (hb : Below w.heap.size w w') : w'.ownsRow base e size v n xs := by
  obtain ⟨h1, h2⟩ := h
  refine ⟨h1, ?_⟩
  rcases h2 with h2 | ⟨g, cap, cur, hv, hg, hh, r⟩
  · exact .inl h2
  · exact .inr ⟨g, cap, cur, hv, hg, (hb.block g (Array.getElem?_eq_some_iff.1 hh).1).trans hh, r⟩

/-- the cells of a list that lies in memory, as they are appended -/
theorem int_news {w : World} {l : List Int} {b off : Nat} (hc : ∀ i (h : i < l.length), w.cell? ⟨b, off + i, none⟩ = some (.int .i64 l[i])) :
    ∀ j u, (intVals l)[j]? = some u → w.cell? ((⟨b, off, none⟩ : Addr).add j) = some u := by
  intro j u hj
  have hlt : j < l.length := by
    have := (List.getElem?_eq_some_iff.1 hj).1
    rwa [intVals_length] at this
  have hadd : (⟨b, off, none⟩ : Addr).add j = ⟨b, off + j, none⟩ := by unfold Addr.add; split <;> simp_all
  rw [hadd, hc j hlt, ← hj]
  simp [intVals, hlt]
theorem int_one (l : List Int) : ∀ u ∈ intVals l, u.oneCell' = true := by
  intro u hu
  unfold intVals at hu
  obtain ⟨x, _, rfl⟩ := List.mem_map.1 hu
  rfl

/-- a copy of a set -/
theorem wpList_clone_set {ops : Array Oper} {rest : List Oper} {o : Oper} {a : Act} {w : World} {Q : Exit → Act → World → Prop} (hgd : o.guard = none) (s x : Operand)
    (ho : o.op = .call { callee := .builtin .append, args := #[s, x], argTypes := #[23, 23] })
    (base : Nat) (v0 : Value) (hs : a.eval s = v0) (hown : w.ownsRow base 34 2 v0 0 []) (v : Value) (l : List Wd) (hx : a.eval x = v) (hset : SetAt w v l) (hl : l.length ≤ 100000) (hbase : base ≤ w.heap.size)
    (h : ∀ v' n w', w'.ownsRow base 34 2 v' n (wdVals l) → Below base w w' → wpList Tryd.prog ops Q rest (a.put o.dst v') w') : wpList Tryd.prog ops Q (o :: rest) a w := by
  obtain ⟨i0, hi, hz0, hz1, hz2⟩ := info_parts info_wd
  obtain ⟨ao, cap, rfl, hll, hm, hz, _⟩ := hset
  have hlt := hown.lt
  cases hao : ao with
  | none =>
    have hl0 : l = [] := by
      by_cases hp : 0 < l.length
      · obtain ⟨b, off, hb, _⟩ := hm hp
        rw [hao] at hb; cases hb
      · exact List.eq_nil_of_length_eq_zero (by omega)
    subst hl0
    obtain rfl := hz hao
    subst hao
    exact wpList_append_own_none hgd s x 23 ho base 34 i0 2 Tryd.underlying23 hi v0 0 [] hs hown hx (h v0 0 w hown (Below.refl _ _))
  | some ad =>
    subst hao
    have hnews : ∀ j u, (wdVals l)[j]? = some u → w.cell? (ad.add j) = some u := by
      by_cases hp : 0 < l.length
      · obtain ⟨b, off, hb, _, hc⟩ := hm hp
        cases hb
        exact set_news hc
      · have hl0 : l = [] := List.eq_nil_of_length_eq_zero (by omega)
        subst hl0
        intro j u hj
        simp [wdVals] at hj
    exact wpList_append_own w hgd s x 23 ho base 34 i0 (.agg #[.int .i64 0, .int .u64 0]) 2 16 Tryd.underlying23 hi hz0 hz1 hz2 rfl (by decide) v0 0 [] hs hown ad l.length cap (wdVals l) hx (wdVals_length l) hnews (wd_one l) (by unfold maxLen; omega) (by omega) hbase
      fun v' w' hown' hgrow _ => h v' _ w' hown' ((Below.refl _ _).grown hgrow hbase fun k hk => (hlt k hk).1)

/-- a copy of a list -/
theorem wpList_clone_ints {ops : Array Oper} {rest : List Oper} {o : Oper} {a : Act} {w : World} {Q : Exit → Act → World → Prop} (hgd : o.guard = none) (s x : Operand)
    (ho : o.op = .call { callee := .builtin .append, args := #[s, x], argTypes := #[27, 27] })
    (base : Nat) (v0 : Value) (hs : a.eval s = v0) (hown : w.ownsRow base 3 1 v0 0 []) (v : Value) (l : List Int) (hx : a.eval x = v) (hset : IntsAt w v l) (hl : l.length ≤ 100000) (hbase : base ≤ w.heap.size)
    (h : ∀ v' n w', w'.ownsRow base 3 1 v' n (intVals l) → Below base w w' → wpList Tryd.prog ops Q rest (a.put o.dst v') w') : wpList Tryd.prog ops Q (o :: rest) a w := by
  obtain ⟨i0, hi, hz0, hz1, hz2⟩ := info_parts info_int
  obtain ⟨ao, cap, rfl, hll, hm, hz⟩ := hset
  have hlt := hown.lt
  cases hao : ao with
  | none =>
    have hl0 : l = [] := by
      by_cases hp : 0 < l.length
      · obtain ⟨b, off, hb, _⟩ := hm hp
        rw [hao] at hb; cases hb
      · exact List.eq_nil_of_length_eq_zero (by omega)
    subst hl0
    obtain rfl := hz hao
    subst hao
    exact wpList_append_own_none hgd s x 27 ho base 3 i0 1 Tryd.underlying27 hi v0 0 [] hs hown hx (h v0 0 w hown (Below.refl _ _))
  | some ad =>
    subst hao
    have hnews : ∀ j u, (intVals l)[j]? = some u → w.cell? (ad.add j) = some u := by
      by_cases hp : 0 < l.length
      · obtain ⟨b, off, hb, _, hc⟩ := hm hp
        cases hb
        exact int_news hc
      · have hl0 : l = [] := List.eq_nil_of_length_eq_zero (by omega)
        subst hl0
        intro j u hj
        simp [intVals] at hj
    exact wpList_append_own w hgd s x 27 ho base 3 i0 (.int .i64 0) 1 8 Tryd.underlying27 hi hz0 hz1 hz2 rfl (by decide) v0 0 [] hs hown ad l.length cap (intVals l) hx (by rw [intVals_length, Nat.mul_one]) hnews (int_one l) (by unfold maxLen; omega) (by omega) hbase
      fun v' w' hown' hgrow _ => h v' _ w' hown' ((Below.refl _ _).grown hgrow hbase fun k hk => (hlt k hk).1)
end Go.Proofs.YtecfjjpdlohmnaaDoor.BitClone
