/- Lists of ints: those that lie in memory, and those that a call owns; copies of them. -/
import Derived.Test.YtaegidmodenomaaDoorSetP
import Derived.Below
import Derived.Laws.AppendOwn
import Derived.Laws.AppendOwnNone
namespace Go.Proofs.YtaegidmodenomaaDoor.IntO
open Go.RowKit Go.Lib SetP

def intVals (l : List Int) : List Value := l.map (Value.int .i64)
theorem intVals_length (l : List Int) : (intVals l).length = l.length := by simp [intVals]
theorem intVals_append (s t : List Int) : intVals (s ++ t) = intVals s ++ intVals t := by simp [intVals]
theorem intsAt_of_owns {w : World} {B : Nat} {e : TypeId} {v : Value} {n : Nat} {l : List Int} (h : w.ownsRow B e 1 v n (intVals l)) (hl : l.length ≤ 9223372036854775807) : IntsAt w v l := by
  obtain ⟨h1, h2⟩ := h
  rw [intVals_length] at h1
  obtain rfl : n = l.length := by omega
  rcases h2 with ⟨rfl, h0⟩ | ⟨g, cap, cur, rfl, hb, hg, hnc, hcm, hcs, ht⟩
  · exact ⟨none, 0, by rw [h0], hl, fun h => by omega, fun _ => rfl, by omega⟩
  · refine ⟨some ⟨g, 0, none⟩, cap, rfl, hl, fun _ => ⟨g, 0, rfl, (Array.getElem?_eq_some_iff.1 hg).1, fun i hi => ?_⟩, (fun h => by cases h), hnc⟩
    unfold World.cell?
    rw [hg]
    have : (intVals l)[i]? = some (.int .i64 l[i]) := by simp [intVals, hi]
    rw [← ht, List.getElem?_take, if_pos (by omega)] at this
    simpa using this

theorem info_int : (Tryd.prog.info? 3).map (fun i => (i.zero, i.size, i.bytes)) = some (some (.int .i64 0), 1, 8) := by kernel_rfl
theorem owns_base {w : World} {B B2 : Nat} {e : TypeId} {size : Nat} {v : Value} {n : Nat} {xs : List Value} (h : w.ownsRow B2 e size v n xs) (hB : B ≤ B2) : w.ownsRow B e size v n xs := by
  obtain ⟨h1, h2⟩ := h
  refine ⟨h1, ?_⟩
  rcases h2 with h2 | ⟨g, cap, cur, a, b, c⟩
  · exact .inl h2
  · exact .inr ⟨g, cap, cur, a, Nat.le_trans hB b, c⟩

theorem ownsRow_below {w w' : World} {base : Nat} {e : TypeId} {size : Nat} {v : Value} {n : Nat} {xs : List Value} (h : w.ownsRow base e size v n xs) (hb : Below w.heap.size w w') : w'.ownsRow base e size v n xs := by
  obtain ⟨h1, h2⟩ := h
  refine ⟨h1, ?_⟩
  rcases h2 with h2 | ⟨g, cap, cur, hv, hg, hh, r⟩
  · exact .inl h2
  · exact .inr ⟨g, cap, cur, hv, hg, (hb.block g (Array.getElem?_eq_some_iff.1 hh).1).trans hh, r⟩

/-- the cells of a list that lies in memory, as they are appended -/
theorem int_news {w : World} {l : List Int} {b off : Nat} (hc : ∀ i (h : i < l.length), w.cell? ⟨b, off + i, none⟩ = some (.int .i64 l[i])) :
    ∀ j u, (intVals l)[j]? = some u → w.cell? ((⟨b, off, none⟩ : Addr).add j) = some u := by
  intro j u hj
  have hlt : j < l.length := by
    have := (List.getElem?_eq_some_iff.1 hj).1
    rwa [intVals_length] at this
  have hadd : (⟨b, off, none⟩ : Addr).add j = ⟨b, off + j, none⟩ := by unfold Addr.add; split <;> simp_all
  rw [hadd, hc j hlt, ← hj]
  simp [intVals, hlt]
theorem int_one (l : List Int) : ∀ u ∈ intVals l, u.oneCell' = true := by
  intro u hu
  unfold intVals at hu
  obtain ⟨x, _, rfl⟩ := List.mem_map.1 hu
  rfl

/-- a copy of a list -/
theorem wpList_clone_ints {ops : Array Oper} {rest : List Oper} {o : Oper} {a : Act} {w : World} {Q : Exit → Act → World → Prop} (hgd : o.guard = none) (s x : Operand)
    (ho : o.op = .call { callee := .builtin .append, args := #[s, x], argTypes := #[23, 23] })
    (base : Nat) (v0 : Value) (hs : a.eval s = v0) (hown : w.ownsRow base 3 1 v0 0 []) (v : Value) (l : List Int) (hx : a.eval x = v) (hset : IntsAt w v l) (hl : l.length ≤ 100000) (hbase : base ≤ w.heap.size)
    (h : ∀ v' n w', w'.ownsRow base 3 1 v' n (intVals l) → Below base w w' → wpList Tryd.prog ops Q rest (a.put o.dst v') w') : wpList Tryd.prog ops Q (o :: rest) a w := by
  obtain ⟨i0, hi, hz0, hz1, hz2⟩ := info_parts info_int
  obtain ⟨ao, cap, rfl, hll, hm, hz, _⟩ := hset
  have hlt := hown.lt
  cases hao : ao with
  | none =>
    have hl0 : l = [] := by
      by_cases hp : 0 < l.length
      · obtain ⟨b, off, hb, _⟩ := hm hp
        rw [hao] at hb; cases hb
      · exact List.eq_nil_of_length_eq_zero (by omega)
    subst hl0
    obtain rfl := hz hao
    subst hao
    exact wpList_append_own_none hgd s x 23 ho base 3 i0 1 Tryd.underlying23 hi v0 0 [] hs hown hx (h v0 0 w hown (Below.refl _ _))
  | some ad =>
    subst hao
    have hnews : ∀ j u, (intVals l)[j]? = some u → w.cell? (ad.add j) = some u := by
      by_cases hp : 0 < l.length
      · obtain ⟨b, off, hb, _, hc⟩ := hm hp
        cases hb
        exact int_news hc
      · have hl0 : l = [] := List.eq_nil_of_length_eq_zero (by omega)
        subst hl0
        intro j u hj
        simp [intVals] at hj
    exact wpList_append_own w hgd s x 23 ho base 3 i0 (.int .i64 0) 1 8 Tryd.underlying23 hi hz0 hz1 hz2 rfl (by decide) v0 0 [] hs hown ad l.length cap (intVals l) hx (by rw [intVals_length, Nat.mul_one]) hnews (int_one l) (by unfold maxLen; omega) (by omega) hbase
      fun v' w' hown' hgrow _ => h v' _ w' hown' ((Below.refl _ _).grown hgrow hbase fun k hk => (hlt k hk).1)
/-- a list appended to a row that the call owns -/
theorem wpList_append_ints {ops : Array Oper} {rest : List Oper} {o : Oper} {a : Act} {w : World} {Q : Exit → Act → World → Prop} (hgd : o.guard = none) (s x : Operand)
    (ho : o.op = .call { callee := .builtin .append, args := #[s, x], argTypes := #[23, 23] })
    (base : Nat) (v0 : Value) (hs : a.eval s = v0) (n : Nat) (xs : List Value) (hown : w.ownsRow base 3 1 v0 n xs) (hn : n ≤ 100000) (v : Value) (l : List Int) (hx : a.eval x = v) (hset : IntsAt w v l) (hl : l.length ≤ 100000) (hbase : base ≤ w.heap.size)
    (h : ∀ v' w', w'.ownsRow base 3 1 v' (n + l.length) (xs ++ intVals l) → w.grownBy w' v0.ownBlock → wpList Tryd.prog ops Q rest (a.put o.dst v') w') : wpList Tryd.prog ops Q (o :: rest) a w := by
  obtain ⟨i0, hi, hz0, hz1, hz2⟩ := info_parts info_int
  obtain ⟨ao, cap, rfl, hll, hm, hz, _⟩ := hset
  cases hao : ao with
  | none =>
    have hl0 : l = [] := by
      by_cases hp : 0 < l.length
      · obtain ⟨b, off, hb, _⟩ := hm hp
        rw [hao] at hb; cases hb
      · exact List.eq_nil_of_length_eq_zero (by omega)
    subst hl0
    obtain rfl := hz hao
    subst hao
    exact wpList_append_own_none hgd s x 23 ho base 3 i0 1 Tryd.underlying23 hi v0 n xs hs hown hx (h v0 w (by simpa [intVals] using hown) ⟨rfl, rfl, rfl, Nat.le_refl _, fun _ _ _ => rfl⟩)
  | some ad =>
    subst hao
    have hnews : ∀ j u, (intVals l)[j]? = some u → w.cell? (ad.add j) = some u := by
      by_cases hp : 0 < l.length
      · obtain ⟨b, off, hb, _, hc⟩ := hm hp
        cases hb
        exact int_news hc
      · have hl0 : l = [] := List.eq_nil_of_length_eq_zero (by omega)
        subst hl0
        intro j u hj
        simp [intVals] at hj
    exact wpList_append_own w hgd s x 23 ho base 3 i0 (.int .i64 0) 1 8 Tryd.underlying23 hi hz0 hz1 hz2 rfl (by decide) v0 n xs hs hown ad l.length cap (intVals l) hx (by rw [intVals_length, Nat.mul_one]) hnews (int_one l) (by unfold maxLen; omega) (by omega) hbase
      fun v' w' hown' hgrow _ => h v' w' hown' hgrow
/-- a list that the call owns -/
def OwnI (l : List Int) (w : World) (e : Ending) (w' : World) : Prop := ∃ u m, e = .returned u ∧ w'.ownsRow w.heap.size 3 1 u m (intVals l) ∧ Below w.heap.size w w'
theorem ownsRow_lit (w : World) (cs : List Value) (ty : TypeId) (n : Nat) (h : cs.length = n) (hn : n ≤ maxLen) : (w.alloc (.cells cs.toArray ty)).ownsRow w.heap.size ty 1 (.slice (some ⟨w.heap.size, 0, none⟩) n n) n cs :=
  ⟨by omega, .inr ⟨w.heap.size, n, cs.toArray, rfl, Nat.le_refl _, heap_alloc_new w _, Nat.le_refl _, hn, by simp [h], by rw [Nat.mul_one, ← h]; simp⟩⟩
end Go.Proofs.YtaegidmodenomaaDoor.IntO
