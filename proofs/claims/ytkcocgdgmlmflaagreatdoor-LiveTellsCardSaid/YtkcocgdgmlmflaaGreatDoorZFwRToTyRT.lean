/- Answers that are lists of numbers, alone and with an error; old memory stays. A list apart from a row that grows. Lists of bools: those that lie in memory, and those that a call owns; copies of them. A row of bools that a call owns, beside a copy of a block: kept, and written to. Rows of bools that a call owns. Tables that are copied. Rows that a call owns, of elements of any size; programs that a call owns. Walk over fescueref03.Twin. -/
import Derived.Test.YtkcocgdgmlmflaaGreatDoorZTyBToTyRE
import Derived.Test.YtkcocgdgmlmflaaGreatDoorZTyW
import Derived.Test.YtkcocgdgmlmflaaGreatDoorZIntOToAft
import Derived.Test.YtkcocgdgmlmflaaGreatDoorZFresh
import Derived.Laws.MakeOwn
import Derived.Laws.OwnMore
import Derived.WalkSpells
import Derived.Laws.NewBlocks
namespace Go.Proofs.YtkcocgdgmlmflaaGreatDoor.FwR
open Go.RowKit Go.Lib SetP IntO TyM TyP TyB ShM ShP

/-- a list of numbers -/
def LstR (l : List Int) (w : World) (e : Ending) (w' : World) : Prop := ∃ u, e = .returned u ∧ IntsAt w' u l ∧ Below w.heap.size w w'
/-- a list of numbers, and an error -/
def LstE (l : List Int) (er : Int) (w : World) (e : Ending) (w' : World) : Prop := ∃ u, e = .returned (.tuple #[u, .int .i64 er]) ∧ IntsAt w' u l ∧ Below w.heap.size w w'
/-- two lists -/
def LstR2 (l k : List Int) (w : World) (e : Ending) (w' : World) : Prop := ∃ u v, e = .returned (.tuple #[u, v]) ∧ IntsAt w' u l ∧ IntsAt w' v k ∧ Below w.heap.size w w'
/-- a bool, and an error -/
def BoolE (b : Bool) (er : Int) (w : World) (e : Ending) (w' : World) : Prop := e = .returned (.tuple #[.bool b, .int .i64 er]) ∧ Below w.heap.size w w'
/-- numbers that have been written out -/
theorem ints_lit (w : World) (l : List Int) (n : Nat) (cs : Array Value) (hc : cs = (intVals l).toArray) (hn : n = l.length) (hl : l.length ≤ 1000) : IntsAt (w.alloc (.cells cs 3)) (.slice (some ⟨w.heap.size, 0, none⟩) n n) l := by
  subst hc
  subst hn
  exact intsAt_of_owns (ownsRow_lit w (intVals l) 3 l.length (by rw [intVals_length]) (by unfold maxLen; omega)) (by omega)
theorem ints_lit_at (w : World) (l : List Int) (m n : Nat) (cs : Array Value) (hm : w.heap.size = m) (hc : cs = (intVals l).toArray) (hn : n = l.length) (hl : l.length ≤ 1000) : IntsAt (w.alloc (.cells cs 3)) (.slice (some ⟨m, 0, none⟩) n n) l := by
  subst hm
  exact ints_lit w l n cs hc hn hl
theorem owns_lit_at (w W : World) (l : List Int) (m n : Nat) (cs : Array Value) (hw : w.heap.size ≤ W.heap.size) (hm : W.heap.size = m) (hc : cs = (intVals l).toArray) (hn : n = l.length) (hl : l.length ≤ 1000) : (W.alloc (.cells cs 3)).ownsRow w.heap.size 3 1 (.slice (some ⟨m, 0, none⟩) n n) n (intVals l) := by
  subst hm
  subst hc
  subst hn
  exact owns_base (ownsRow_lit W (intVals l) 3 l.length (by rw [intVals_length]) (by unfold maxLen; omega)) hw
/-- a row is kept where another block is written to -/
theorem owns_set {w : World} {base s n g i : Nat} {e : TypeId} {v u : Value} {xs : List Value} (h : w.ownsRow base e s v n xs) (hg : g < base) : (w.setCell ⟨g, i, none⟩ u).ownsRow base e s v n xs := by
  obtain ⟨h1, h2⟩ := h
  refine ⟨h1, ?_⟩
  rcases h2 with h2 | ⟨b, cap, cur, hv, hb, hh, r⟩
  · exact .inl h2
  · exact .inr ⟨b, cap, cur, hv, hb, (Below.heap_setCell _ _ _ b (by show b ≠ g; omega)).trans hh, r⟩

/-- a list of numbers whose memory is new -/
def NewI (B : Nat) (w : World) (v : Value) (l : List Int) : Prop := IntsAt w v l ∧ ∀ g off n c, v = .slice (some ⟨g, off, none⟩) n c → B ≤ g
theorem newI_of {w : World} {B n : Nat} {v : Value} {l : List Int} (h : w.ownsRow B 3 1 v n (intVals l)) (hl : l.length ≤ 9223372036854775807) : NewI B w v l := by
  refine ⟨intsAt_of_owns h hl, fun g off n c e => ?_⟩
  rcases h.2 with ⟨rfl, _⟩ | ⟨g', _, _, rfl, hg, _⟩
  · cases e
  · cases e; exact hg
theorem newI_none (B : Nat) (w : World) : NewI B w (.slice none 0 0) [] := ⟨ints_none w, fun g off n c e => by cases e⟩
theorem NewI.below {w w' : World} {B : Nat} {v : Value} {l : List Int} (h : NewI B w v l) (hb : Below w.heap.size w w') : NewI B w' v l := ⟨h.1.below hb, h.2⟩
/-- a list in new memory, and an error -/
def LstN (l : List Int) (er : Int) (w : World) (e : Ending) (w' : World) : Prop := ∃ u, e = .returned (.tuple #[u, .int .i64 er]) ∧ NewI w.heap.size w' u l ∧ Below w.heap.size w w'
theorem LstN.e {l : List Int} {er : Int} {w : World} {e : Ending} {w' : World} (h : LstN l er w e w') : LstE l er w e w' := by
  obtain ⟨u, h1, h2, h3⟩ := h
  exact ⟨u, h1, h2.1, h3⟩
/-- a list in new memory -/
def LstRN (l : List Int) (w : World) (e : Ending) (w' : World) : Prop := ∃ u, e = .returned u ∧ NewI w.heap.size w' u l ∧ Below w.heap.size w w'
end Go.Proofs.YtkcocgdgmlmflaaGreatDoor.FwR
namespace Go.Proofs.YtkcocgdgmlmflaaGreatDoor.FwO
open Go.RowKit Go.Lib SetP IntO TyM TyP TyB ShM ShP FwR Fresh

/-- a list appended to a row that the call owns; where the new row lies -/
theorem wpList_append_intsN {ops : Array Oper} {rest : List Oper} {o : Oper} {a : Act} {w : World} {Q : Exit → Act → World → Prop} (hgd : o.guard = none) (s x : Operand)
    (ho : o.op = .call { callee := .builtin .append, args := #[s, x], argTypes := #[28, 28] })
    (base : Nat) (v0 : Value) (hs : a.eval s = v0) (n : Nat) (xs : List Value) (hown : w.ownsRow base 3 1 v0 n xs) (hn : n ≤ 100000) (v : Value) (l : List Int) (hx : a.eval x = v) (hset : IntsAt w v l) (hl : l.length ≤ 100000) (hbase : base ≤ w.heap.size)
    (h : ∀ v' w', w'.ownsRow base 3 1 v' (n + l.length) (xs ++ intVals l) → w.grownBy w' v0.ownBlock → NewRow w v0 v' → wpList Tryz.prog ops Q rest (a.put o.dst v') w') : wpList Tryz.prog ops Q (o :: rest) a w := by
  obtain ⟨i0, hi, hz0, hz1, hz2⟩ := info_parts info_int
  obtain ⟨ao, cap, rfl, hll, hm, hz, _⟩ := hset
  cases hao : ao with
  | none =>
    have hl0 : l = [] := by
      by_cases hp : 0 < l.length
      · obtain ⟨b, off, hb, _⟩ := hm hp
        rw [hao] at hb; cases hb
      · exact List.eq_nil_of_length_eq_zero (by omega)
    subst hl0
    obtain rfl := hz hao
    subst hao
    exact wpList_append_own_none hgd s x 28 ho base 3 i0 1 Tryz.underlying28 hi v0 n xs hs hown hx (h v0 w (by simpa [intVals] using hown) ⟨rfl, rfl, rfl, Nat.le_refl _, fun _ _ _ => rfl⟩ (NewRow.refl _ _))
  | some ad =>
    subst hao
    have hnews : ∀ j u, (intVals l)[j]? = some u → w.cell? (ad.add j) = some u := by
      by_cases hp : 0 < l.length
      · obtain ⟨b, off, hb, _, hc⟩ := hm hp
        cases hb
        exact int_news hc
      · have hl0 : l = [] := List.eq_nil_of_length_eq_zero (by omega)
        subst hl0
        intro j u hj
        simp [intVals] at hj
    exact wpList_append_fresh w hgd s x 28 ho base 3 i0 (.int .i64 0) 1 8 Tryz.underlying28 hi hz0 hz1 hz2 rfl (by decide) v0 n xs hs hown ad l.length cap (intVals l) hx (by rw [intVals_length, Nat.mul_one]) hnews (int_one l) (by unfold maxLen; omega) (by omega) hbase
      fun v' w' hown' hgrow hnew => h v' w' hown' hgrow hnew

/-- a list whose block is not a row's -/
def Apart (u : Value) (w : World) (v : Value) : Prop := ∀ g off n c, v = .slice (some ⟨g, off, none⟩) n c → 0 < n → g < w.heap.size ∧ u.ownBlock ≠ some g
theorem apart_of {B : Nat} {w : World} {u v : Value} {l : List Int} (h : NewI B w v l) (hu : ∀ g, u.ownBlock = some g → g < B) : Apart u w v := by
  intro g off n c e hn
  have h1 := h.2 g off n c e
  obtain ⟨ao, cap, hv, _, hm, _⟩ := h.1
  rw [hv] at e
  cases e
  obtain ⟨b, o, hb, hlt, _⟩ := hm hn
  cases hb
  refine ⟨hlt, fun e => ?_⟩
  have := hu g e
  omega
theorem Apart.grown {u u1 v : Value} {w w1 : World} (h : Apart u w v) (hg : w.grownBy w1 u.ownBlock) (hr : NewRow w u u1) : Apart u1 w1 v := by
  intro g off n c e hn
  obtain ⟨h1, h2⟩ := h g off n c e hn
  refine ⟨Nat.lt_of_lt_of_le h1 hg.size, ?_⟩
  rcases hr with hr | ⟨g', hr, hg'⟩
  · rw [hr]; exact h2
  · rw [hr]; intro e; cases e; omega
theorem Apart.below {u v : Value} {w w1 : World} (h : Apart u w v) (hb : w.heap.size ≤ w1.heap.size) : Apart u w1 v := fun g off n c e hn => ⟨Nat.lt_of_lt_of_le (h g off n c e hn).1 hb, (h g off n c e hn).2⟩
theorem Apart.ints {u v : Value} {w w1 : World} {l : List Int} (h : Apart u w v) (hg : w.grownBy w1 u.ownBlock) (hi : IntsAt w v l) : IntsAt w1 v l := by
  obtain ⟨ao, cap, rfl, hl, hm, hz⟩ := hi
  refine ⟨ao, cap, rfl, hl, fun h0 => ?_, hz⟩
  obtain ⟨b, off, rfl, hlt, hc⟩ := hm h0
  obtain ⟨h1, h2⟩ := h b off _ _ rfl h0
  refine ⟨b, off, rfl, Nat.lt_of_lt_of_le hlt hg.size, fun i hi => ?_⟩
  have hcell := hc i hi
  unfold World.cell? at hcell ⊢
  rw [hg.block b hlt (fun e => h2 e.symm)]
  exact hcell
end Go.Proofs.YtkcocgdgmlmflaaGreatDoor.FwO
namespace Go.Proofs.YtkcocgdgmlmflaaGreatDoor.LuB
open Go.RowKit Go.Lib SetP IntO TyM TyP TyB TyW

/-- a slice of bools that lies in memory: its value, and its bools -/
def BoolsAt (w : World) (v : Value) (l : List Bool) : Prop :=
  ∃ ao cap, v = .slice ao l.length cap ∧ l.length ≤ 9223372036854775807 ∧
    (0 < l.length → ∃ b off, ao = some ⟨b, off, none⟩ ∧ b < w.heap.size ∧ ∀ i (h : i < l.length), w.cell? ⟨b, off + i, none⟩ = some (.bool l[i])) ∧ (ao = none → cap = 0) ∧ l.length ≤ cap
theorem BoolsAt.below {w w' : World} {v : Value} {s : List Bool} (h : BoolsAt w v s) (hb : Below w.heap.size w w') : BoolsAt w' v s := by
  obtain ⟨ao, cap, hv, hl, hm, hz⟩ := h
  refine ⟨ao, cap, hv, hl, fun h0 => ?_, hz⟩
  obtain ⟨b, off, ha, hlt, hc⟩ := hm h0
  refine ⟨b, off, ha, Nat.lt_of_lt_of_le hlt hb.size, fun i hi => ?_⟩
  exact (hb.cell (p := ⟨b, _, none⟩) hlt).trans (hc i hi)

def boolVals (l : List Bool) : List Value := l.map Value.bool
theorem boolVals_length (l : List Bool) : (boolVals l).length = l.length := by simp [boolVals]
theorem boolVals_append (s t : List Bool) : boolVals (s ++ t) = boolVals s ++ boolVals t := by simp [boolVals]
theorem boolsAt_of_owns {w : World} {B : Nat} {e : TypeId} {v : Value} {n : Nat} {l : List Bool} (h : w.ownsRow B e 1 v n (boolVals l)) (hl : l.length ≤ 9223372036854775807) : BoolsAt w v l := by
  obtain ⟨h1, h2⟩ := h
  rw [boolVals_length] at h1
  obtain rfl : n = l.length := by omega
  rcases h2 with ⟨rfl, h0⟩ | ⟨g, cap, cur, rfl, hb, hg, hnc, hcm, hcs, ht⟩
  · exact ⟨none, 0, by rw [h0], hl, fun h => by omega, fun _ => rfl, by omega⟩
  · refine ⟨some ⟨g, 0, none⟩, cap, rfl, hl, fun _ => ⟨g, 0, rfl, (Array.getElem?_eq_some_iff.1 hg).1, fun i hi => ?_⟩, (fun h => by cases h), hnc⟩
    unfold World.cell?
    rw [hg]
    have : (boolVals l)[i]? = some (.bool l[i]) := by simp [boolVals, hi]
    rw [← ht, List.getElem?_take, if_pos (by omega)] at this
    simpa using this

theorem info_bool : (Tryz.prog.info? 4).map (fun i => (i.zero, i.size, i.bytes)) = some (some (.bool false), 1, 1) := by kernel_rfl
/-- the cells of a list that lies in memory, as they are appended -/
theorem bool_news {w : World} {l : List Bool} {b off : Nat} (hc : ∀ i (h : i < l.length), w.cell? ⟨b, off + i, none⟩ = some (.bool l[i])) :
    ∀ j u, (boolVals l)[j]? = some u → w.cell? ((⟨b, off, none⟩ : Addr).add j) = some u := by
  intro j u hj
  have hlt : j < l.length := by
    have := (List.getElem?_eq_some_iff.1 hj).1
    rwa [boolVals_length] at this
  have hadd : (⟨b, off, none⟩ : Addr).add j = ⟨b, off + j, none⟩ := by unfold Addr.add; split <;> simp_all
  rw [hadd, hc j hlt, ← hj]
  simp [boolVals, hlt]
theorem bool_one (l : List Bool) : ∀ u ∈ boolVals l, u.oneCell' = true := by
  intro u hu
  unfold boolVals at hu
  obtain ⟨x, _, rfl⟩ := List.mem_map.1 hu
  rfl

/-- a copy of a list -/
theorem wpList_clone_bools {ops : Array Oper} {rest : List Oper} {o : Oper} {a : Act} {w : World} {Q : Exit → Act → World → Prop} (hgd : o.guard = none) (s x : Operand)
    (ho : o.op = .call { callee := .builtin .append, args := #[s, x], argTypes := #[71, 71] })
    (base : Nat) (v0 : Value) (hs : a.eval s = v0) (hown : w.ownsRow base 4 1 v0 0 []) (v : Value) (l : List Bool) (hx : a.eval x = v) (hset : BoolsAt w v l) (hl : l.length ≤ 100000) (hbase : base ≤ w.heap.size)
    (h : ∀ v' n w', w'.ownsRow base 4 1 v' n (boolVals l) → Below base w w' → wpList Tryz.prog ops Q rest (a.put o.dst v') w') : wpList Tryz.prog ops Q (o :: rest) a w := by
  obtain ⟨i0, hi, hz0, hz1, hz2⟩ := info_parts info_bool
  obtain ⟨ao, cap, rfl, hll, hm, hz, _⟩ := hset
  have hlt := hown.lt
  cases hao : ao with
  | none =>
    have hl0 : l = [] := by
      by_cases hp : 0 < l.length
      · obtain ⟨b, off, hb, _⟩ := hm hp
        rw [hao] at hb; cases hb
      · exact List.eq_nil_of_length_eq_zero (by omega)
    subst hl0
    obtain rfl := hz hao
    subst hao
    exact wpList_append_own_none hgd s x 71 ho base 4 i0 1 Tryz.underlying71 hi v0 0 [] hs hown hx (h v0 0 w hown (Below.refl _ _))
  | some ad =>
    subst hao
    have hnews : ∀ j u, (boolVals l)[j]? = some u → w.cell? (ad.add j) = some u := by
      by_cases hp : 0 < l.length
      · obtain ⟨b, off, hb, _, hc⟩ := hm hp
        cases hb
        exact bool_news hc
      · have hl0 : l = [] := List.eq_nil_of_length_eq_zero (by omega)
        subst hl0
        intro j u hj
        simp [boolVals] at hj
    exact wpList_append_own w hgd s x 71 ho base 4 i0 (.bool false) 1 1 Tryz.underlying71 hi hz0 hz1 hz2 rfl (by decide) v0 0 [] hs hown ad l.length cap (boolVals l) hx (by rw [boolVals_length, Nat.mul_one]) hnews (bool_one l) (by unfold maxLen; omega) (by omega) hbase
      fun v' w' hown' hgrow _ => h v' _ w' hown' ((Below.refl _ _).grown hgrow hbase fun k hk => (hlt k hk).1)
/-- a list appended to a row that the call owns -/
theorem wpList_append_bools {ops : Array Oper} {rest : List Oper} {o : Oper} {a : Act} {w : World} {Q : Exit → Act → World → Prop} (hgd : o.guard = none) (s x : Operand)
    (ho : o.op = .call { callee := .builtin .append, args := #[s, x], argTypes := #[71, 71] })
    (base : Nat) (v0 : Value) (hs : a.eval s = v0) (n : Nat) (xs : List Value) (hown : w.ownsRow base 4 1 v0 n xs) (hn : n ≤ 100000) (v : Value) (l : List Bool) (hx : a.eval x = v) (hset : BoolsAt w v l) (hl : l.length ≤ 100000) (hbase : base ≤ w.heap.size)
    (h : ∀ v' w', w'.ownsRow base 4 1 v' (n + l.length) (xs ++ boolVals l) → w.grownBy w' v0.ownBlock → wpList Tryz.prog ops Q rest (a.put o.dst v') w') : wpList Tryz.prog ops Q (o :: rest) a w := by
  obtain ⟨i0, hi, hz0, hz1, hz2⟩ := info_parts info_bool
  obtain ⟨ao, cap, rfl, hll, hm, hz, _⟩ := hset
  cases hao : ao with
  | none =>
    have hl0 : l = [] := by
      by_cases hp : 0 < l.length
      · obtain ⟨b, off, hb, _⟩ := hm hp
        rw [hao] at hb; cases hb
      · exact List.eq_nil_of_length_eq_zero (by omega)
    subst hl0
    obtain rfl := hz hao
    subst hao
    exact wpList_append_own_none hgd s x 71 ho base 4 i0 1 Tryz.underlying71 hi v0 n xs hs hown hx (h v0 w (by simpa [boolVals] using hown) ⟨rfl, rfl, rfl, Nat.le_refl _, fun _ _ _ => rfl⟩)
  | some ad =>
    subst hao
    have hnews : ∀ j u, (boolVals l)[j]? = some u → w.cell? (ad.add j) = some u := by
      by_cases hp : 0 < l.length
      · obtain ⟨b, off, hb, _, hc⟩ := hm hp
        cases hb
        exact bool_news hc
      · have hl0 : l = [] := List.eq_nil_of_length_eq_zero (by omega)
        subst hl0
        intro j u hj
        simp [boolVals] at hj
    exact wpList_append_own w hgd s x 71 ho base 4 i0 (.bool false) 1 1 Tryz.underlying71 hi hz0 hz1 hz2 rfl (by decide) v0 n xs hs hown ad l.length cap (boolVals l) hx (by rw [boolVals_length, Nat.mul_one]) hnews (bool_one l) (by unfold maxLen; omega) (by omega) hbase
      fun v' w' hown' hgrow _ => h v' w' hown' hgrow
theorem bools_slice {w : World} {v : Value} {l : List Bool} (h : BoolsAt w v l) : ∃ ao cap, v = .slice ao l.length cap ∧ l.length ≤ 9223372036854775807 := by
  obtain ⟨ao, cap, hv, hl, _⟩ := h
  exact ⟨ao, cap, hv, hl⟩
theorem bools_at {w : World} {ao : Option Addr} {n cap : Nat} {l : List Bool} (h : BoolsAt w (.slice ao n cap) l) (k : Nat) (hk : k < l.length) : ∃ b off, ao = some ⟨b, off, none⟩ ∧ b < w.heap.size ∧ w.cell? ⟨b, off + k, none⟩ = some (.bool l[k]) := by
  obtain ⟨ao', cap', hv, hl, hm, hz⟩ := h
  cases hv
  obtain ⟨b, off, ha, hlt, hc⟩ := hm (by omega)
  exact ⟨b, off, ha, hlt, hc k hk⟩
/-- a row of bools of the call's own -/
def OwnB (B : Nat) (w : World) (v : Value) (l : List Bool) : Prop := w.ownsRow B 4 1 v l.length (boolVals l)
theorem OwnB.below {B : Nat} {w w' : World} {v : Value} {l : List Bool} (h : OwnB B w v l) (hb : Below w.heap.size w w') : OwnB B w' v l := ownsRow_below h hb
theorem OwnB.bools {B : Nat} {w : World} {v : Value} {l : List Bool} (h : OwnB B w v l) (hl : l.length ≤ 9223372036854775807) : BoolsAt w v l := boolsAt_of_owns h hl
theorem OwnB.at {B : Nat} {w : World} {v : Value} {l : List Bool} (h : OwnB B w v l) (i : Nat) (hi : i < l.length) : ∃ g cap, v = .slice (some ⟨g, 0, none⟩) l.length cap ∧ B ≤ g ∧ g < w.heap.size ∧ w.cell? ⟨g, i, none⟩ = some (.bool l[i]) ∧ w.frozen? ⟨g, i, none⟩ = false := by
  obtain ⟨g, cap, rfl, hg, hgl, _, hc⟩ := row_cells h (by rw [boolVals_length]; omega)
  exact ⟨g, cap, rfl, hg, hgl, hc i _ (by simp [boolVals, hi]), World.ownsRow.frozenAt h i⟩
theorem OwnB.set {B g cap : Nat} {w : World} {l : List Bool} (h : OwnB B w (.slice (some ⟨g, 0, none⟩) l.length cap) l) (i : Nat) (b : Bool) : OwnB B (w.setCell ⟨g, i, none⟩ (.bool b)) (.slice (some ⟨g, 0, none⟩) l.length cap) (l.set i b) := by
  have := (World.ownsRow.stored h i (.bool b)).1
  unfold OwnB
  rw [List.length_set]
  unfold boolVals
  rw [List.map_set]
  exact this

/-! bools by a function -/
def vec (N : Nat) (g : Nat → Bool) : List Bool := (List.range N).map g
theorem vec_len (N : Nat) (g : Nat → Bool) : (vec N g).length = N := by simp [vec]
theorem vec_at {N : Nat} {g : Nat → Bool} {i : Nat} (h : i < N) : (vec N g)[i]'(by rw [vec_len]; exact h) = g i := by simp [vec]
theorem vec_get {N : Nat} {g : Nat → Bool} {i : Nat} (h : i < N) : (vec N g)[i]? = some (g i) := by
  rw [List.getElem?_eq_getElem (by rw [vec_len]; exact h), vec_at h]
theorem vec_eq {N : Nat} {g k : Nat → Bool} (h : ∀ i, i < N → g i = k i) : vec N g = vec N k := List.map_congr_left fun i hi => h i (List.mem_range.1 hi)
theorem vec_set {N : Nat} {g : Nat → Bool} (i : Nat) (b : Bool) : (vec N g).set i b = vec N fun r => if r = i then b else g r := by
  apply List.ext_getElem
  · rw [List.length_set, vec_len, vec_len]
  · intro j h1 h2
    rw [vec_len] at h2
    rw [List.getElem_set, vec_at (g := fun r => if r = i then b else g r) h2]
    by_cases e : i = j
    · subst e; simp
    · rw [if_neg e, vec_at h2]
      show _ = if j = i then b else g j
      rw [if_neg (fun h => e h.symm)]
theorem vec_none (N : Nat) : vec N (fun _ => false) = List.replicate N false := by
  apply List.ext_getElem
  · rw [vec_len, List.length_replicate]
  · intro j h1 h2
    rw [vec_len] at h1
    rw [vec_at h1, List.getElem_replicate]
end Go.Proofs.YtkcocgdgmlmflaaGreatDoor.LuB
namespace Go.Proofs.YtkcocgdgmlmflaaGreatDoor.LuC
open Go.RowKit Go.Lib SetP IntO TyM TyP TyB TyW TyD Aft LuB

/-- a row of bools by a function, the call's own -/
def VecR (N : Nat) (g : Nat → Bool) (w : World) (e : Ending) (w' : World) : Prop := ∃ u, e = .returned u ∧ OwnB w.heap.size w' u (vec N g) ∧ Below w.heap.size w w'
structure Lk (W : World) (m : Nat) (o : Obj) (vo : Option Addr) (N vc : Nat) (g : Nat → Bool) (wr : World) : Prop where
  aft : Aft W wr
  blk : wr.heap[m]? = some o
  row : OwnB W.heap.size wr (.slice vo N vc) (vec N g)
  apart : ∀ k, (Value.slice vo N vc).ownBlock = some k → k < m
variable {W : World} {m : Nat} {o : Obj} {vo : Option Addr} {N vc : Nat} {g : Nat → Bool} {wr : World}
theorem Lk.go (h : Lk W m o vo N vc g wr) {w' : World} (hb : Below wr.heap.size wr w') : Lk W m o vo N vc g w' :=
  ⟨h.aft.go hb, (hb.block m (Array.getElem?_eq_some_iff.1 h.blk).1).trans h.blk, h.row.below hb, h.apart⟩
theorem Lk.set (h : Lk W m o vo N vc g wr) (u : Nat) (hu : u < N) : ∃ g0, vo = some ⟨g0, 0, none⟩ ∧ g0 < m ∧ wr.cell? ⟨g0, u, none⟩ = some (.bool (g u)) ∧ wr.frozen? ⟨g0, u, none⟩ = false ∧ ∀ b, Lk W m o vo N vc (fun r => if r = u then b else g r) (wr.setCell ⟨g0, u, none⟩ (.bool b)) := by
  obtain ⟨g0, cap, he, hB, _, hc, hf⟩ := h.row.at u (by rw [vec_len]; exact hu)
  rw [vec_at hu] at hc
  rw [vec_len] at he
  have hrow := h.row
  have hap := h.apart
  cases he
  have hlt : g0 < m := hap g0 rfl
  refine ⟨g0, rfl, hlt, hc, hf, fun b => ⟨h.aft.set hB _, ?_, ?_, hap⟩⟩
  · rw [Below.heap_setCell _ _ _ m (by show m ≠ g0; omega)]; exact h.blk
  · rw [← vec_set]
    have := OwnB.set (B := W.heap.size) (w := wr) (l := vec N g) (g := g0) (cap := vc) (by rw [vec_len]; exact hrow) u b
    rwa [vec_len] at this
theorem Lk.cells {cs : Array Value} {ty : TypeId} {fr : Nat × Nat} (h : Lk W m (.cells cs ty fr) vo N vc g wr) (i : Nat) (v : Value) (hi : cs[i]? = some v) : wr.cell? ⟨m, i, none⟩ = some v := by
  unfold World.cell?
  rw [h.blk]
  exact hi
theorem Lk.eq {k : Nat → Bool} (h : Lk W m o vo N vc g wr) (he : g = k) : Lk W m o vo N vc k wr := he ▸ h

/-! beside a list of numbers that the call owns, too -/
structure Lj (W : World) (B : Nat) (ua : Option Addr) (un : Nat) (js : List Int) (g0 N : Nat) (g : Nat → Bool) (wr : World) : Prop where
  aft : Aft W wr
  row : OwnB W.heap.size wr (.slice (some ⟨g0, 0, none⟩) N N) (vec N g)
  lst : wr.ownsRow B 3 1 (.slice ua js.length un) js.length (intVals js)
  lt : g0 < B
variable {B un g0 : Nat} {ua : Option Addr} {js : List Int}
theorem Lj.go (h : Lj W B ua un js g0 N g wr) {w' : World} (hb : Below wr.heap.size wr w') : Lj W B ua un js g0 N g w' := ⟨h.aft.go hb, h.row.below hb, ownsRow_below h.lst hb, h.lt⟩
theorem Lj.at (h : Lj W B ua un js g0 N g wr) (u : Nat) (hu : u < N) : wr.cell? ⟨g0, u, none⟩ = some (.bool (g u)) ∧ wr.frozen? ⟨g0, u, none⟩ = false := by
  obtain ⟨g1, cap, he, hB, _, hc, hf⟩ := h.row.at u (by rw [vec_len]; exact hu)
  rw [vec_at hu] at hc
  rw [vec_len] at he
  cases he
  exact ⟨hc, hf⟩
theorem Lj.set (h : Lj W B ua un js g0 N g wr) (u : Nat) (hu : u < N) (b : Bool) : Lj W B ua un js g0 N (fun r => if r = u then b else g r) (wr.setCell ⟨g0, u, none⟩ (.bool b)) := by
  obtain ⟨g1, cap, he, hB, _, hc, hf⟩ := h.row.at u (by rw [vec_len]; exact hu)
  rw [vec_len] at he
  cases he
  refine ⟨h.aft.set hB _, ?_, ?_, h.lt⟩
  · rw [← vec_set]
    have := OwnB.set (B := W.heap.size) (w := wr) (l := vec N g) (g := g0) (cap := N) (by rw [vec_len]; exact h.row) u b
    rwa [vec_len] at this
  · obtain ⟨h1, h2⟩ := h.lst
    refine ⟨h1, ?_⟩
    rcases h2 with h2 | ⟨b2, cap, cur, hv, hb, hh, r⟩
    · exact .inl h2
    · exact .inr ⟨b2, cap, cur, hv, hb, (Below.heap_setCell _ _ _ b2 (by show b2 ≠ g0; have := h.lt; omega)).trans hh, r⟩
theorem Lj.addr (h : Lj W B ua un js g0 N g wr) (hl : js.length ≤ 1000) (h0 : 0 < js.length) : ∃ b2 o2, ua = some ⟨b2, o2, none⟩ := by
  obtain ⟨b2, o2, he, _, _⟩ := TyP.ints_at (intsAt_of_owns h.lst (by omega)) 0 h0
  exact ⟨b2, o2, he⟩
theorem Lj.num {b2 o2 : Nat} (h : Lj W B (some ⟨b2, o2, none⟩) un js g0 N g wr) (hl : js.length ≤ 1000) (i : Nat) (hi : i < js.length) : wr.cell? ⟨b2, o2 + i, none⟩ = some (.int .i64 js[i]) := by
  obtain ⟨b3, o3, he, _, hc⟩ := TyP.ints_at (intsAt_of_owns h.lst (by omega)) i hi
  cases he
  exact hc
theorem Lj.eq {k : Nat → Bool} (h : Lj W B ua un js g0 N g wr) (he : g = k) : Lj W B ua un js g0 N k wr := he ▸ h
theorem Lj.vec {k : Nat → Bool} (h : Lj W B ua un js g0 N g wr) (he : ∀ r, r < N → g r = k r) : Lj W B ua un js g0 N k wr := ⟨h.aft, by rw [← vec_eq he]; exact h.row, h.lst, h.lt⟩
theorem made_vec (n : Nat) : (madeCells (Value.bool false).cells n).toList = boolVals (vec n fun _ => false) := by
  apply List.ext_getElem
  · rw [Array.length_toList, size_madeCells, boolVals_length, vec_len]
  · intro i h1 h2
    simp [madeCells, Value.cells, Nat.mod_one, boolVals, vec]
theorem own_made (w : World) (B n : Nat) (hB : B ≤ w.heap.size) (hn : n ≤ 100000) : OwnB B (w.alloc (.cells (madeCells (Value.bool false).cells n) 4)) (.slice (some ⟨w.heap.size, 0, none⟩) n n) (vec n fun _ => false) := by
  unfold OwnB
  rw [vec_len]
  refine ⟨by rw [boolVals_length, vec_len]; omega, .inr ⟨w.heap.size, _, _, rfl, hB, heap_alloc_new w _, Nat.le_refl _, by unfold maxLen; omega, by rw [size_madeCells]; simp, ?_⟩⟩
  rw [Nat.mul_one, made_vec, List.take_of_length_le (by rw [boolVals_length, vec_len]; omega)]

/-! rows of rows of bools -/
def BbAt (w : World) (v : Value) (n N : Nat) (X : Nat → Nat → Bool) : Prop := ∃ gb cap, v = .slice (some ⟨gb, 0, none⟩) n cap ∧ ∀ i, i < n → ∃ u, gb < w.heap.size ∧ w.cell? ⟨gb, i, none⟩ = some u ∧ BoolsAt w u (vec N (X i))
theorem BbAt.below {w w' : World} {v : Value} {n N : Nat} {X : Nat → Nat → Bool} (h : BbAt w v n N X) (hb : Below w.heap.size w w') : BbAt w' v n N X := by
  obtain ⟨gb, cap, rfl, hx⟩ := h
  refine ⟨gb, cap, rfl, fun i hi => ?_⟩
  obtain ⟨u, hlt, hc, hu⟩ := hx i hi
  exact ⟨u, Nat.lt_of_lt_of_le hlt hb.size, (hb.cell (p := ⟨gb, i, none⟩) hlt).trans hc, hu.below hb⟩
theorem BbAt.at {w : World} {ao : Option Addr} {c n N : Nat} {X : Nat → Nat → Bool} (h : BbAt w (.slice ao n c) n N X) (i : Nat) (hi : i < n) : ∃ gb ba bc, ao = some ⟨gb, 0, none⟩ ∧ w.cell? ⟨gb, i, none⟩ = some (.slice ba N bc) ∧ BoolsAt w (.slice ba N bc) (vec N (X i)) := by
  obtain ⟨gb, cap, he, hx⟩ := h
  cases he
  obtain ⟨u, hlt, hc, hu⟩ := hx i hi
  obtain ⟨ba, bc, rfl, _⟩ := bools_slice hu
  rw [vec_len] at hc hu
  exact ⟨gb, ba, bc, rfl, hc, hu⟩
theorem BbAt.slice {w : World} {v : Value} {n N : Nat} {X : Nat → Nat → Bool} (h : BbAt w v n N X) : ∃ ao c, v = .slice ao n c := by
  obtain ⟨gb, cap, rfl, _⟩ := h
  exact ⟨_, _, rfl⟩
/-- such rows, the first k of them the call's own -/
def OwnBk (B gb : Nat) (w : World) (n k N : Nat) (X : Nat → Nat → Bool) : Prop := ∃ vs : List Value, vs.length = n ∧ w.ownsRow B 71 1 (.slice (some ⟨gb, 0, none⟩) n n) n vs ∧ ∀ i (h : i < vs.length), i < k → OwnB B w vs[i] (vec N (X i))
theorem OwnBk.below {B gb : Nat} {w w' : World} {n k N : Nat} {X : Nat → Nat → Bool} (h : OwnBk B gb w n k N X) (hb : Below w.heap.size w w') : OwnBk B gb w' n k N X := by
  obtain ⟨vs, hl, ho, hx⟩ := h
  exact ⟨vs, hl, ownsRow_below ho hb, fun i hi hk => (hx i hi hk).below hb⟩
theorem OwnBk.zero {B gb : Nat} {w : World} {n k N : Nat} {X Y : Nat → Nat → Bool} (h : OwnBk B gb w n k N X) : OwnBk B gb w n 0 N Y := by
  obtain ⟨vs, hl, ho, _⟩ := h
  exact ⟨vs, hl, ho, fun i _ hk => by omega⟩
theorem OwnBk.eq {B gb : Nat} {w : World} {n k N : Nat} {X Y : Nat → Nat → Bool} (h : OwnBk B gb w n k N X) (he : ∀ i r, i < k → r < N → X i r = Y i r) : OwnBk B gb w n k N Y := by
  obtain ⟨vs, hl, ho, hx⟩ := h
  exact ⟨vs, hl, ho, fun i hi hk => by rw [← vec_eq (fun r hr => he i r hk hr)]; exact hx i hi hk⟩
theorem OwnBk.typed {B gb : Nat} {w : World} {n k N : Nat} {X : Nat → Nat → Bool} (h : OwnBk B gb w n k N X) : B ≤ gb ∧ ∃ cs fr, w.heap[gb]? = some (.cells cs 71 fr) := by
  obtain ⟨vs, hl, ho, hx⟩ := h
  rcases ho.2 with ⟨hc, _⟩ | ⟨b2, cap, cur, hv, hb, hh, r⟩
  · cases hc
  · cases hv; exact ⟨hb, _, _, hh⟩
theorem OwnBk.cell {B gb : Nat} {w : World} {n k N : Nat} {X : Nat → Nat → Bool} (h : OwnBk B gb w n k N X) (i : Nat) (hi : i < n) : ∃ u, gb < w.heap.size ∧ w.cell? ⟨gb, i, none⟩ = some u ∧ w.frozen? ⟨gb, i, none⟩ = false ∧ (i < k → OwnB B w u (vec N (X i))) := by
  obtain ⟨vs, hl, ho, hx⟩ := h
  obtain ⟨g2, c2, he, hg, hgl, _, hc⟩ := row_cells ho (by omega)
  cases he
  exact ⟨vs[i], hgl, hc i _ (by simp [show i < vs.length by omega]), World.ownsRow.frozenAt ho i, hx i (by omega)⟩
theorem OwnBk.at {B gb : Nat} {w : World} {n N : Nat} {X : Nat → Nat → Bool} (h : OwnBk B gb w n n N X) (hN : N ≤ 100000) : BbAt w (.slice (some ⟨gb, 0, none⟩) n n) n N X := by
  refine ⟨gb, n, rfl, fun i hi => ?_⟩
  obtain ⟨u, hlt, hc, _, hu⟩ := h.cell i hi
  exact ⟨u, hlt, hc, (hu hi).bools (by rw [vec_len]; omega)⟩
theorem bool_row_apart {w : World} {B gb k : Nat} {cs : Array Value} {fr : Nat × Nat} {v u : Value} {l : List Bool} (h : OwnB B w v l) (hg : w.heap[gb]? = some (.cells cs 71 fr)) : OwnB B (w.setCell ⟨gb, k, none⟩ u) v l := by
  obtain ⟨h1, h2⟩ := h
  refine ⟨h1, ?_⟩
  rcases h2 with h2 | ⟨b2, cap, cur, hv, hb, hh, r⟩
  · exact .inl h2
  · refine .inr ⟨b2, cap, cur, hv, hb, (Below.heap_setCell _ _ _ b2 (fun e => ?_)).trans hh, r⟩
    have e2 : b2 = gb := e
    subst e2
    rw [hh] at hg
    cases hg
theorem OwnBk.set {B gb : Nat} {w : World} {n k N : Nat} {X : Nat → Nat → Bool} (h : OwnBk B gb w n k N X) {u : Value} (hu : OwnB B w u (vec N (X k))) : OwnBk B gb (w.setCell ⟨gb, k, none⟩ u) n (k + 1) N X := by
  obtain ⟨_, cs, fr, hg⟩ := h.typed
  obtain ⟨vs, hl, ho, hx⟩ := h
  have ho2 := (World.ownsRow.stored ho k u).1
  refine ⟨vs.set k u, by rw [List.length_set]; exact hl, ho2, fun j hj hjk => ?_⟩
  rw [List.getElem_set]
  by_cases e : k = j
  · subst e
    rw [if_pos rfl]
    exact bool_row_apart hu hg
  · rw [if_neg e]
    exact bool_row_apart (hx j (by rw [List.length_set] at hj; exact hj) (by omega)) hg
theorem OwnBk.apart {B ge gb i : Nat} {w : World} {n k N : Nat} {X : Nat → Nat → Bool} {u : Value} {cs : Array Value} {fr : Nat × Nat} (h : OwnBk B ge w n k N X) (hne : ge ≠ gb) (hg : w.heap[gb]? = some (.cells cs 71 fr)) : OwnBk B ge (w.setCell ⟨gb, i, none⟩ u) n k N X := by
  obtain ⟨vs, hl, ho, hx⟩ := h
  refine ⟨vs, hl, ?_, fun j hj hk => bool_row_apart (hx j hj hk) hg⟩
  obtain ⟨h1, h2⟩ := ho
  refine ⟨h1, ?_⟩
  rcases h2 with h2 | ⟨b2, cap, cur, hv, hb, hh, r⟩
  · exact .inl h2
  · cases hv
    exact .inr ⟨ge, _, cur, rfl, hb, (Below.heap_setCell _ _ _ ge (by show ge ≠ gb; exact hne)).trans hh, r⟩
/-- the beginnings and the ends -/
structure Le (W : World) (gb ge n N kb ke : Nat) (X Y : Nat → Nat → Bool) (wr : World) : Prop where
  aft : Aft W wr
  beg : OwnBk W.heap.size gb wr n kb N X
  fin : OwnBk W.heap.size ge wr n ke N Y
  ne : gb ≠ ge
variable {gb ge n kb ke : Nat} {X Y : Nat → Nat → Bool}
theorem Le.go (h : Le W gb ge n N kb ke X Y wr) {w' : World} (hb : Below wr.heap.size wr w') : Le W gb ge n N kb ke X Y w' := ⟨h.aft.go hb, h.beg.below hb, h.fin.below hb, h.ne⟩
theorem Le.setB (h : Le W gb ge n N kb ke X Y wr) {u : Value} (hu : OwnB W.heap.size wr u (vec N (X kb))) : Le W gb ge n N (kb + 1) ke X Y (wr.setCell ⟨gb, kb, none⟩ u) := by
  obtain ⟨hB, cs, fr, hg⟩ := h.beg.typed
  exact ⟨h.aft.set hB _, h.beg.set hu, h.fin.apart (fun e => h.ne e.symm) hg, h.ne⟩
theorem Le.setE (h : Le W gb ge n N kb ke X Y wr) {u : Value} (hu : OwnB W.heap.size wr u (vec N (Y ke))) : Le W gb ge n N kb (ke + 1) X Y (wr.setCell ⟨ge, ke, none⟩ u) := by
  obtain ⟨hB, cs, fr, hg⟩ := h.fin.typed
  exact ⟨h.aft.set hB _, h.beg.apart h.ne hg, h.fin.set hu, h.ne⟩
theorem Le.againB (h : Le W gb ge n N kb ke X Y wr) {Z : Nat → Nat → Bool} : Le W gb ge n N 0 ke Z Y wr := ⟨h.aft, h.beg.zero, h.fin, h.ne⟩
theorem Le.againE (h : Le W gb ge n N kb ke X Y wr) {Z : Nat → Nat → Bool} : Le W gb ge n N kb 0 X Z wr := ⟨h.aft, h.beg, h.fin.zero, h.ne⟩
theorem OwnB.base {B C : Nat} {w : World} {v : Value} {l : List Bool} (h : OwnB B w v l) (hb : C ≤ B) : OwnB C w v l := owns_base h hb
theorem info_bools : (Tryz.prog.info? 71).map (fun i => (i.zero, i.size, i.bytes)) = some (some (.slice none 0 0), 1, 24) := by kernel_rfl
theorem own_made_rows (w : World) (B n N : Nat) (X : Nat → Nat → Bool) (hB : B ≤ w.heap.size) (hn : n ≤ 1000) : OwnBk B w.heap.size (w.alloc (.cells (madeCells (Value.slice none 0 0).cells n) 71)) n 0 N X := by
  refine ⟨List.replicate n (.slice none 0 0), by simp, ⟨by simp, .inr ⟨w.heap.size, _, _, rfl, hB, heap_alloc_new w _, Nat.le_refl _, by unfold maxLen; omega, by rw [size_madeCells]; simp, ?_⟩⟩, fun i _ hk => by omega⟩
  rw [Nat.mul_one, List.take_of_length_le (by rw [Array.length_toList, size_madeCells]; simp)]
  apply List.ext_getElem
  · rw [Array.length_toList, size_madeCells]; simp
  · intro i h1 h2
    simp [madeCells, Value.cells, Nat.mod_one]
end Go.Proofs.YtkcocgdgmlmflaaGreatDoor.LuC
namespace Go.Proofs.YtkcocgdgmlmflaaGreatDoor.RwB
open Go.RowKit Go.Lib SetP IntO TyM TyP TyB TyW

theorem info_bool : (Tryz.prog.info? 4).map (fun i => (i.zero, i.size, i.bytes)) = some (some (.bool false), 1, 1) := by kernel_rfl
/-- a row of bools that the call owns -/
def RowB (B g : Nat) (bs : List Bool) (w : World) : Prop := w.ownsRow B 4 1 (.slice (some ⟨g, 0, none⟩) bs.length bs.length) bs.length (bs.map Value.bool)
theorem RowB.below {B g : Nat} {bs : List Bool} {w w' : World} (h : RowB B g bs w) (hb : Below w.heap.size w w') : RowB B g bs w' := ownsRow_below h hb
theorem RowB.at {B g : Nat} {bs : List Bool} {w : World} (h : RowB B g bs w) (i : Nat) (hi : i < bs.length) : ∃ b, bs[i]? = some b ∧ B ≤ g ∧ w.cell? ⟨g, i, none⟩ = some (.bool b) ∧ w.frozen? ⟨g, i, none⟩ = false := by
  obtain ⟨g2, c2, he, hg, _, _, hc⟩ := row_cells h (by rw [List.length_map]; omega)
  cases he
  exact ⟨bs[i], List.getElem?_eq_getElem hi, hg, hc i _ (by simp [hi]), h.frozenAt i⟩
theorem RowB.set {B g : Nat} {bs : List Bool} {w : World} (h : RowB B g bs w) (i : Nat) (b : Bool) : RowB B g (bs.set i b) (w.setCell ⟨g, i, none⟩ (.bool b)) := by
  have := (h.stored i (.bool b)).1
  unfold RowB
  rw [List.length_set, List.map_set]
  exact this
theorem made_bools (n : Nat) : (madeCells (Value.bool false).cells n).toList = (List.replicate n false).map Value.bool := by
  apply List.ext_getElem
  · rw [Array.length_toList, size_madeCells]; simp
  · intro i h1 h2
    simp [madeCells, Value.cells, Nat.mod_one]
theorem row_made (w : World) (B n : Nat) (hB : B ≤ w.heap.size) (hn : n ≤ 1000) : RowB B w.heap.size (List.replicate n false) (w.alloc (.cells (madeCells (Value.bool false).cells n) 4)) := by
  unfold RowB
  refine ⟨by simp, .inr ⟨w.heap.size, _, _, rfl, hB, heap_alloc_new w _, Nat.le_refl _, by rw [List.length_replicate]; unfold maxLen; omega, by rw [size_madeCells]; simp, ?_⟩⟩
  rw [List.length_replicate, Nat.mul_one, made_bools, List.take_of_length_le (by simp)]
end Go.Proofs.YtkcocgdgmlmflaaGreatDoor.RwB
namespace Go.Proofs.YtkcocgdgmlmflaaGreatDoor.TyT
open Go.RowKit Go.Lib SetP IntO TyM TyP TyB TyW

theorem info_ty : (Tryz.prog.info? 78).map (fun i => (i.zero, i.size, i.bytes)) = some (some (.agg #[.int .u8 0, .int .i64 0, .int .i64 0, .slice none 0 0]), 4, 48) := by kernel_rfl
theorem row_one {r : List Row} (h : ∀ x ∈ r, ∃ a n c, x.2 = .slice a n c) : ∀ u ∈ rowVals r, u.oneCell' = true := by
  intro u hu
  unfold rowVals at hu
  obtain ⟨x, hx, hu⟩ := List.mem_flatMap.1 hu
  obtain ⟨a, n, c, he⟩ := h x hx
  simp only [List.mem_cons, List.not_mem_nil, or_false] at hu
  rcases hu with rfl | rfl | rfl | rfl
  · rfl
  · rfl
  · rfl
  · rw [he]; rfl

/-- a copy of a table -/
theorem wpList_clone_tys {ops : Array Oper} {rest : List Oper} {o : Oper} {a : Act} {w : World} {Q : Exit → Act → World → Prop} (hgd : o.guard = none) (s x : Operand)
    (ho : o.op = .call { callee := .builtin .append, args := #[s, x], argTypes := #[22, 22] })
    (base : Nat) (v0 : Value) (hs : a.eval s = v0) (k : Nat) (xs : List Value) (hown : w.ownsRow base 78 4 v0 k xs) (hk : k ≤ 100000) (ao : Option Addr) (cap : Nat) (r : List Row) (hx : a.eval x = .slice ao r.length cap)
    (hr1 : ∀ x ∈ r, ∃ a n c, x.2 = .slice a n c) (hz : ao = none → cap = 0) (hcell : 0 < r.length → ∃ b off, ao = some ⟨b, off, none⟩ ∧ ∀ j u, (rowVals r)[j]? = some u → w.cell? ⟨b, off + j, none⟩ = some u) (hl : r.length ≤ 100000) (hbase : base ≤ w.heap.size)
    (h : ∀ v' w', w'.ownsRow base 78 4 v' (k + r.length) (xs ++ rowVals r) → w.grownBy w' v0.ownBlock → wpList Tryz.prog ops Q rest (a.put o.dst v') w') : wpList Tryz.prog ops Q (o :: rest) a w := by
  obtain ⟨i0, hi, hz0, hz1, hz2⟩ := info_parts info_ty
  cases hao : ao with
  | none =>
    have hl0 : r = [] := by
      by_cases hp : 0 < r.length
      · obtain ⟨b, off, hb, _⟩ := hcell hp
        rw [hao] at hb; cases hb
      · exact List.eq_nil_of_length_eq_zero (by omega)
    subst hl0
    obtain rfl := hz hao
    subst hao
    exact wpList_append_own_none hgd s x 22 ho base 78 i0 4 Tryz.underlying22 hi v0 k xs hs hown hx (h v0 w (by simpa [rowVals] using hown) ⟨rfl, rfl, rfl, Nat.le_refl _, fun _ _ _ => rfl⟩)
  | some ad =>
    subst hao
    have hnews : ∀ j u, (rowVals r)[j]? = some u → w.cell? (ad.add j) = some u := by
      by_cases hp : 0 < r.length
      · obtain ⟨b, off, hb, hc⟩ := hcell hp
        cases hb
        intro j u hj
        have hadd : (⟨b, off, none⟩ : Addr).add j = ⟨b, off + j, none⟩ := by unfold Addr.add; split <;> simp_all
        rw [hadd]
        exact hc j u hj
      · obtain rfl : r = [] := List.eq_nil_of_length_eq_zero (by omega)
        intro j u hj
        simp [rowVals] at hj
    exact wpList_append_own w hgd s x 22 ho base 78 i0 (.agg #[.int .u8 0, .int .i64 0, .int .i64 0, .slice none 0 0]) 4 48 Tryz.underlying22 hi hz0 hz1 hz2 rfl (by decide) v0 k xs hs hown ad r.length cap (rowVals r) hx (rowVals_length r) hnews (row_one hr1) (by unfold maxLen; omega) (by omega) hbase
      fun v' w' hown' hgrow _ => h v' w' hown' hgrow

/-- a twin: all of it is the call's own -/
def TwinR (t : List Ty) (w : World) (e : Ending) (w' : World) : Prop := ∃ u r, e = .returned u ∧ r.map Prod.fst = t ∧ OwnT w.heap.size u r w' ∧ Below w.heap.size w w'
end Go.Proofs.YtkcocgdgmlmflaaGreatDoor.TyT
namespace Go.Proofs.YtkcocgdgmlmflaaGreatDoor.TyRT
open Go.RowKit Go.Lib SetP IntO TyM TyP TyB TyW TyT

/-- rows are kept where a row of types grows -/
theorem own_kept {w w' : World} {B m : Nat} {u : Value} {r : List Row} {xs : List Value} (h : ∀ x ∈ r, w.ownsRow B 3 1 x.2 x.1.parts.length (intVals x.1.parts)) (ho : w.ownsRow B 78 4 u m xs) (hg : w.grownBy w' u.ownBlock) :
    ∀ x ∈ r, w'.ownsRow B 3 1 x.2 x.1.parts.length (intVals x.1.parts) := by
  intro x hx
  refine (h x hx).kept hg ?_
  rcases ho.2 with ⟨rfl, _⟩ | ⟨g, cap, cur, rfl, _⟩
  · cases hxv : x.2.ownBlock with
    | none => exact .inl rfl
    | some g => exact .inr (by simp [Value.ownBlock])
  · exact .inr (by simpa [Value.ownBlock] using own_ne (h x hx) ho (by decide))

theorem own_grown {B : Nat} {w0 w w' : World} {u : Value} {m : Nat} {xs : List Value} {ty : TypeId} {s : Nat} (hb : Below B w0 w) (ho : w.ownsRow B ty s u m xs) (hg : w.grownBy w' u.ownBlock) (hB : B ≤ w.heap.size) : Below B w0 w' :=
  hb.grown hg hB fun g hgg => by
    rcases ho.2 with ⟨rfl, _⟩ | ⟨g', _, _, rfl, hg', _⟩
    · cases hgg
    · have : g' = g := by simpa [Value.ownBlock] using hgg
      omega

end Go.Proofs.YtkcocgdgmlmflaaGreatDoor.TyRT
namespace Go.Proofs.YtkcocgdgmlmflaaGreatDoor.RwO
open Go.RowKit Go.Lib SetP IntO TyM TyP TyW TyT ShM ShP

/-- the cells of elements, one behind the other -/
def rowOf {ρ : Type} (f : ρ → List Value) (r : List ρ) : List Value := r.flatMap f
theorem rowOf_nil {ρ : Type} (f : ρ → List Value) : rowOf f [] = [] := rfl
theorem rowOf_cons {ρ : Type} (f : ρ → List Value) (x : ρ) (r : List ρ) : rowOf f (x :: r) = f x ++ rowOf f r := rfl
theorem rowOf_append {ρ : Type} (f : ρ → List Value) (a b : List ρ) : rowOf f (a ++ b) = rowOf f a ++ rowOf f b := by simp [rowOf]
theorem rowOf_one {ρ : Type} (f : ρ → List Value) (x : ρ) : rowOf f [x] = f x := by simp [rowOf]
/-- elements of so many cells -/
def Wide {ρ : Type} (f : ρ → List Value) (n : Nat) : Prop := ∀ x, (f x).length = n
theorem Wide.len {ρ : Type} {f : ρ → List Value} {sz : Nat} (h : Wide f sz) : ∀ r : List ρ, (rowOf f r).length = r.length * sz
  | [] => by simp [rowOf]
  | x :: r => by
    have ih := h.len r
    rw [rowOf_cons, List.length_append, ih, h x, List.length_cons, Nat.succ_mul]; omega
theorem Wide.at {ρ : Type} {f : ρ → List Value} {sz : Nat} (h : Wide f sz) : ∀ (r : List ρ) (i : Nat) (hi : i < r.length) (j : Nat), j < sz → (rowOf f r)[i * sz + j]? = (f r[i])[j]?
  | x :: r, 0, _, j, hj => by
    rw [rowOf_cons, Nat.zero_mul, Nat.zero_add, List.getElem?_append_left (by rw [h x]; exact hj)]; rfl
  | x :: r, i + 1, hi, j, hj => by
    have ih := h.at r i (by simpa using hi) j hj
    rw [rowOf_cons, List.getElem?_append_right (by rw [h x, Nat.succ_mul]; omega), h x, show (i + 1) * sz + j - sz = i * sz + j by rw [Nat.succ_mul]; omega]
    exact ih
theorem Wide.set {ρ : Type} {f : ρ → List Value} {sz : Nat} (h : Wide f sz) {v : Value} {j : Nat} (hj : j < sz) : ∀ (r : List ρ) (i : Nat) (hi : i < r.length) (y : ρ), f y = (f r[i]).set j v → (rowOf f r).set (i * sz + j) v = rowOf f (r.set i y)
  | x :: r, 0, _, y, hy => by
    rw [List.set_cons_zero, rowOf_cons, rowOf_cons, Nat.zero_mul, Nat.zero_add, List.set_append_left _ _ (by rw [h x]; exact hj), hy]; rfl
  | x :: r, i + 1, hi, y, hy => by
    have ih := h.set hj r i (by simpa using hi) y hy
    rw [List.set_cons_succ, rowOf_cons, rowOf_cons, List.set_append_right _ _ (by rw [h x, Nat.succ_mul]; omega), h x, show (i + 1) * sz + j - sz = i * sz + j by rw [Nat.succ_mul]; omega, ih]

/-- the type of the block of a row that is owned -/
theorem own_typed {w : World} {C s m : Nat} {f : TypeId} {u : Value} {ys : List Value} (h : w.ownsRow C f s u m ys) : ∀ g, u.ownBlock = some g → ∃ cs fr, w.heap[g]? = some (.cells cs f fr) := by
  intro g hg
  rcases h.2 with ⟨rfl, _⟩ | ⟨g1, _, cur, rfl, _, h1, _⟩
  · cases hg
  · obtain rfl : g1 = g := by simpa [Value.ownBlock] using hg
    exact ⟨_, _, h1⟩
/-- a row of another type is kept -/
theorem owns_other {w w' : World} {B s n : Nat} {e f : TypeId} {v : Value} {xs : List Value} {row : Option Nat} (h : w.ownsRow B e s v n xs) (hg : w.grownBy w' row) (hr : ∀ g, row = some g → ∃ cs fr, w.heap[g]? = some (.cells cs f fr)) (hef : e ≠ f) : w'.ownsRow B e s v n xs := by
  refine h.kept hg ?_
  cases hv : v.ownBlock with
  | none => exact .inl rfl
  | some g =>
    refine .inr fun hrow => ?_
    obtain ⟨cs, fr, h1⟩ := hr g hrow.symm
    obtain ⟨cs2, fr2, h2⟩ := own_typed h g hv
    rw [h1] at h2
    simp at h2
    exact hef h2.2.1.symm
theorem own_len {w : World} {B s n : Nat} {e : TypeId} {v : Value} {xs : List Value} (h : w.ownsRow B e s v n xs) : n ≤ 9223372036854775807 := by
  rcases h.2 with ⟨_, rfl⟩ | ⟨_, cap, _, _, _, _, h1, h2, _⟩
  · omega
  · unfold maxLen at h2; omega
theorem own_form {w : World} {B s n : Nat} {e : TypeId} {v : Value} {xs : List Value} (h : w.ownsRow B e s v n xs) : ∃ a c, v = .slice a n c := by
  rcases h.2 with ⟨rfl, rfl⟩ | ⟨_, _, _, rfl, _⟩
  · exact ⟨_, _, rfl⟩
  · exact ⟨_, _, rfl⟩
/-- a row that is owned lies in memory -/
theorem rowAt_of {α ρ : Type} {sz B : Nat} {te : TypeId} {In : World → Nat → Nat → α → Prop} {f : ρ → List Value} (g : ρ → α) {w : World} {v : Value} {r : List ρ} (hw : Wide f sz) (hp : 0 < sz) (h : w.ownsRow B te sz v r.length (rowOf f r))
    (hin : ∀ b o (y : ρ), y ∈ r → (∀ j u, (f y)[j]? = some u → w.cell? ⟨b, o + j, none⟩ = some u) → In w b o (g y)) : RowAt sz In w v (r.map g) := by
  have hl := own_len h
  by_cases h0 : 0 < r.length
  · obtain ⟨b, cap, rfl, _, hlt, hn, hc⟩ := row_cells h (by rw [hw.len]; exact Nat.mul_pos h0 hp)
    refine ⟨some ⟨b, 0, none⟩, cap, by simp, by simpa using hl, fun _ => ⟨b, 0, rfl, hlt, fun i hi => ?_⟩, (fun e => by cases e), by simpa using hn⟩
    have hi' : i < r.length := by simpa using hi
    rw [List.getElem_map]
    refine hin b _ r[i] (List.getElem_mem hi') fun j u hj => ?_
    have hjs : j < sz := by have := (List.getElem?_eq_some_iff.1 hj).1; rw [hw] at this; exact this
    have := hw.at r i hi' j hjs
    rw [hj] at this
    rw [Nat.zero_add]
    exact hc _ _ this
  · obtain rfl : r = [] := List.eq_nil_of_length_eq_zero (by omega)
    rcases h.2 with ⟨rfl, _⟩ | ⟨g, cap, cur, rfl, hg, hb, hn, hm, hs, ht⟩
    · exact ⟨none, 0, rfl, by simp, (fun h => by simp at h), (fun _ => rfl), by simp⟩
    · exact ⟨some ⟨g, 0, none⟩, cap, rfl, by simp, (fun h => by simp at h), (fun e => by cases e), by simp⟩

/-- a row appended to one that the call owns -/
theorem wpList_append_row {ρ : Type} {f : ρ → List Value} {sz : Nat} (hw : Wide f sz) (hpos : 0 < sz) {ops : Array Oper} {rest : List Oper} {o : Oper} {a : Act} {w : World} {Q : Exit → Act → World → Prop} {ts te : TypeId} {zero : Value} {bytes : Nat}
    (hinfo : (Tryz.prog.info? te).map (fun i => (i.zero, i.size, i.bytes)) = some (some zero, sz, bytes)) (hu : Tryz.prog.underlying ts = some (.slice te)) (hzs : zero.cells.size = sz) (hgd : o.guard = none) (s x : Operand)
    (ho : o.op = .call { callee := .builtin .append, args := #[s, x], argTypes := #[ts, ts] })
    (base : Nat) (v0 : Value) (hs : a.eval s = v0) (k : Nat) (xs : List Value) (hown : w.ownsRow base te sz v0 k xs) (ao : Option Addr) (n cap : Nat) (r : List ρ) (hn : n = r.length) (hx : a.eval x = .slice ao n cap)
    (hone : ∀ y ∈ r, ∀ u ∈ f y, u.oneCell' = true) (hz : ao = none → cap = 0) (hcell : 0 < r.length → ∃ b off, ao = some ⟨b, off, none⟩ ∧ ∀ j u, (rowOf f r)[j]? = some u → w.cell? ⟨b, off + j, none⟩ = some u) (hl : k + r.length ≤ maxLen) (hbytes : (k + r.length) * bytes ≤ 140737488355328) (hbase : base ≤ w.heap.size)
    (h : ∀ v' w', w'.ownsRow base te sz v' (k + n) (xs ++ rowOf f r) → w.grownBy w' v0.ownBlock → wpList Tryz.prog ops Q rest (a.put o.dst v') w') : wpList Tryz.prog ops Q (o :: rest) a w := by
  subst hn
  obtain ⟨i0, hi, hz0, hz1, hz2⟩ := info_parts hinfo
  cases hao : ao with
  | none =>
    have hl0 : r = [] := by
      by_cases hp : 0 < r.length
      · obtain ⟨b, off, hb, _⟩ := hcell hp
        rw [hao] at hb; cases hb
      · exact List.eq_nil_of_length_eq_zero (by omega)
    subst hl0
    obtain rfl := hz hao
    subst hao
    exact wpList_append_own_none hgd s x ts ho base te i0 sz hu hi v0 k xs hs hown hx (h v0 w (by simpa [rowOf] using hown) ⟨rfl, rfl, rfl, Nat.le_refl _, fun _ _ _ => rfl⟩)
  | some ad =>
    subst hao
    have hnews : ∀ j u, (rowOf f r)[j]? = some u → w.cell? (ad.add j) = some u := by
      by_cases hp : 0 < r.length
      · obtain ⟨b, off, hb, hc⟩ := hcell hp
        cases hb
        intro j u hj
        have hadd : (⟨b, off, none⟩ : Addr).add j = ⟨b, off + j, none⟩ := by unfold Addr.add; split <;> simp_all
        rw [hadd]
        exact hc j u hj
      · obtain rfl : r = [] := List.eq_nil_of_length_eq_zero (by omega)
        intro j u hj
        simp [rowOf] at hj
    exact wpList_append_own w hgd s x ts ho base te i0 zero sz bytes hu hi hz0 hz1 hz2 hzs hpos v0 k xs hs hown ad r.length cap (rowOf f r) hx (hw.len r) hnews
      (fun u hu => by obtain ⟨y, hy, h2⟩ := List.mem_flatMap.1 hu; exact hone y hy u h2) hl hbytes hbase
      fun v' w' hown' hgrow _ => h v' w' hown' hgrow

/-- the same, for one operation alone -/
theorem wp_append_row {ρ : Type} {f : ρ → List Value} {sz : Nat} (hw : Wide f sz) (hpos : 0 < sz) {o : Oper} {a : Act} {w : World} {K : Act → World → Prop} {Q : Exit → Act → World → Prop} {ts te : TypeId} {zero : Value} {bytes : Nat}
    (hinfo : (Tryz.prog.info? te).map (fun i => (i.zero, i.size, i.bytes)) = some (some zero, sz, bytes)) (hu : Tryz.prog.underlying ts = some (.slice te)) (hzs : zero.cells.size = sz) (s x : Operand)
    (ho : o.op = .call { callee := .builtin .append, args := #[s, x], argTypes := #[ts, ts] })
    (base : Nat) (v0 : Value) (hs : a.eval s = v0) (k : Nat) (xs : List Value) (hown : w.ownsRow base te sz v0 k xs) (b off n cap : Nat) (r : List ρ) (hn : n = r.length) (hx : a.eval x = .slice (some ⟨b, off, none⟩) n cap)
    (hone : ∀ y ∈ r, ∀ u ∈ f y, u.oneCell' = true) (hcell : ∀ j u, (rowOf f r)[j]? = some u → w.cell? ⟨b, off + j, none⟩ = some u) (hl : k + r.length ≤ maxLen) (hbytes : (k + r.length) * bytes ≤ 140737488355328) (hbase : base ≤ w.heap.size)
    (h : ∀ v' w', w'.ownsRow base te sz v' (k + n) (xs ++ rowOf f r) → w.grownBy w' v0.ownBlock → K (a.put o.dst v') w') : o.wp Tryz.prog a w K Q := by
  subst hn
  obtain ⟨i0, hi, hz0, hz1, hz2⟩ := info_parts hinfo
  have hnews : ∀ j u, (rowOf f r)[j]? = some u → w.cell? ((⟨b, off, none⟩ : Addr).add j) = some u := by
    intro j u hj
    have hadd : (⟨b, off, none⟩ : Addr).add j = ⟨b, off + j, none⟩ := by unfold Addr.add; split <;> simp_all
    rw [hadd]
    exact hcell j u hj
  exact wp_append_own w s x ts ho base te i0 zero sz bytes hu hi hz0 hz1 hz2 hzs hpos v0 k xs hs hown ⟨b, off, none⟩ r.length cap (rowOf f r) hx (hw.len r) hnews
    (fun u hu => by obtain ⟨y, hy, h2⟩ := List.mem_flatMap.1 hu; exact hone y hy u h2) hl hbytes hbase
    fun v' w' hown' hgrow _ => h v' w' hown' hgrow

/-! programs -/
/-- an instruction, a block, a function, with the values of their lists -/
structure Ir where
  x : Ix
  va : Value
  vf : Value
structure Br where
  en : Ex
  vi : Value
  rows : List Ir
structure Fr where
  sig : Int
  vb : Value
  blocks : List Br
def irV (y : Ir) : List Value := [.int .u8 y.x.op, .int .i64 y.x.typ, .int .i64 y.x.a, .int .i64 y.x.b, .int .i64 y.x.n, y.va, y.vf]
def brV (y : Br) : List Value := [y.vi, .int .u8 y.en.kind, .int .i64 y.en.a, .int .i64 y.en.to, .int .i64 y.en.els]
def frV (y : Fr) : List Value := [.int .i64 y.sig, y.vb]
theorem irW : Wide irV 7 := fun _ => rfl
theorem brW : Wide brV 5 := fun _ => rfl
theorem frW : Wide frV 2 := fun _ => rfl
def Br.bx (y : Br) : Bx := ⟨y.rows.map Ir.x, y.en⟩
def Fr.fx (y : Fr) : Fx := ⟨y.sig, y.blocks.map Br.bx⟩

def OwnIr (B : Nat) (w : World) (y : Ir) : Prop := w.ownsRow B 3 1 y.va y.x.args.length (intVals y.x.args) ∧ w.ownsRow B 3 1 y.vf y.x.frm.length (intVals y.x.frm)
def OwnIns (B : Nat) (w : World) (v : Value) (r : List Ir) : Prop := w.ownsRow B 49 7 v r.length (rowOf irV r) ∧ ∀ y ∈ r, OwnIr B w y
def OwnBlks (B : Nat) (w : World) (v : Value) (r : List Br) : Prop := w.ownsRow B 47 5 v r.length (rowOf brV r) ∧ ∀ y ∈ r, OwnIns B w y.vi y.rows
def OwnFns (B : Nat) (w : World) (v : Value) (r : List Fr) : Prop := w.ownsRow B 42 2 v r.length (rowOf frV r) ∧ ∀ y ∈ r, OwnBlks B w y.vb y.blocks

theorem OwnIr.below {B : Nat} {w w' : World} {y : Ir} (h : OwnIr B w y) (hb : Below w.heap.size w w') : OwnIr B w' y := ⟨ownsRow_below h.1 hb, ownsRow_below h.2 hb⟩
theorem OwnIns.below {B : Nat} {w w' : World} {v : Value} {r : List Ir} (h : OwnIns B w v r) (hb : Below w.heap.size w w') : OwnIns B w' v r := ⟨ownsRow_below h.1 hb, fun y hy => (h.2 y hy).below hb⟩
theorem OwnBlks.below {B : Nat} {w w' : World} {v : Value} {r : List Br} (h : OwnBlks B w v r) (hb : Below w.heap.size w w') : OwnBlks B w' v r := ⟨ownsRow_below h.1 hb, fun y hy => (h.2 y hy).below hb⟩
theorem OwnFns.below {B : Nat} {w w' : World} {v : Value} {r : List Fr} (h : OwnFns B w v r) (hb : Below w.heap.size w w') : OwnFns B w' v r := ⟨ownsRow_below h.1 hb, fun y hy => (h.2 y hy).below hb⟩
theorem OwnIr.base {B C : Nat} {w : World} {y : Ir} (h : OwnIr B w y) (hb : C ≤ B) : OwnIr C w y := ⟨owns_base h.1 hb, owns_base h.2 hb⟩
theorem OwnIns.base {B C : Nat} {w : World} {v : Value} {r : List Ir} (h : OwnIns B w v r) (hb : C ≤ B) : OwnIns C w v r := ⟨owns_base h.1 hb, fun y hy => (h.2 y hy).base hb⟩
theorem OwnBlks.base {B C : Nat} {w : World} {v : Value} {r : List Br} (h : OwnBlks B w v r) (hb : C ≤ B) : OwnBlks C w v r := ⟨owns_base h.1 hb, fun y hy => (h.2 y hy).base hb⟩
theorem OwnFns.base {B C : Nat} {w : World} {v : Value} {r : List Fr} (h : OwnFns B w v r) (hb : C ≤ B) : OwnFns C w v r := ⟨owns_base h.1 hb, fun y hy => (h.2 y hy).base hb⟩
/-- kept where a row of another type grows -/
theorem OwnIr.other {B : Nat} {w w' : World} {y : Ir} {f : TypeId} {row : Option Nat} (h : OwnIr B w y) (hg : w.grownBy w' row) (hr : ∀ g, row = some g → ∃ cs fr, w.heap[g]? = some (.cells cs f fr)) (h1 : 3 ≠ f) : OwnIr B w' y := ⟨owns_other h.1 hg hr h1, owns_other h.2 hg hr h1⟩
theorem OwnIns.other {B : Nat} {w w' : World} {v : Value} {r : List Ir} {f : TypeId} {row : Option Nat} (h : OwnIns B w v r) (hg : w.grownBy w' row) (hr : ∀ g, row = some g → ∃ cs fr, w.heap[g]? = some (.cells cs f fr)) (h1 : 3 ≠ f) (h2 : 49 ≠ f) : OwnIns B w' v r := ⟨owns_other h.1 hg hr h2, fun y hy => (h.2 y hy).other hg hr h1⟩
theorem OwnBlks.other {B : Nat} {w w' : World} {v : Value} {r : List Br} {f : TypeId} {row : Option Nat} (h : OwnBlks B w v r) (hg : w.grownBy w' row) (hr : ∀ g, row = some g → ∃ cs fr, w.heap[g]? = some (.cells cs f fr)) (h1 : 3 ≠ f) (h2 : 49 ≠ f) (h3 : 47 ≠ f) : OwnBlks B w' v r := ⟨owns_other h.1 hg hr h3, fun y hy => (h.2 y hy).other hg hr h1 h2⟩

theorem OwnIns.row {B : Nat} {w : World} {v : Value} {r : List Ir} (h : OwnIns B w v r) : InsAt w v (r.map Ir.x) :=
  rowAt_of Ir.x irW (by decide) h.1 fun b o y hy hc => ⟨y.va, y.vf, hc 0 _ rfl, hc 1 _ rfl, hc 2 _ rfl, hc 3 _ rfl, hc 4 _ rfl, hc 5 _ rfl, hc 6 _ rfl, intsAt_of_owns (h.2 y hy).1 (own_len (h.2 y hy).1), intsAt_of_owns (h.2 y hy).2 (own_len (h.2 y hy).2)⟩
theorem OwnBlks.row {B : Nat} {w : World} {v : Value} {r : List Br} (h : OwnBlks B w v r) : BlksAt w v (r.map Br.bx) :=
  rowAt_of Br.bx brW (by decide) h.1 fun b o y hy hc => ⟨y.vi, hc 0 _ rfl, hc 1 _ rfl, hc 2 _ rfl, hc 3 _ rfl, hc 4 _ rfl, (h.2 y hy).row⟩
theorem OwnFns.row {B : Nat} {w : World} {v : Value} {r : List Fr} (h : OwnFns B w v r) : FnsAt w v (r.map Fr.fx) :=
  rowAt_of Fr.fx frW (by decide) h.1 fun b o y hy hc => ⟨y.vb, hc 0 _ rfl, hc 1 _ rfl, (h.2 y hy).row⟩

/-- a program that a call owns -/
def OwnPr (B : Nat) (w : World) (v : Value) (p : Px) : Prop := ∃ vt vf tr fs, v = .agg #[vt, vf] ∧ OwnT B vt tr w ∧ tr.map Prod.fst = p.types ∧ OwnFns B w vf fs ∧ fs.map Fr.fx = p.funcs
theorem OwnPr.below {B : Nat} {w w' : World} {v : Value} {p : Px} (h : OwnPr B w v p) (hb : Below w.heap.size w w') : OwnPr B w' v p := by
  obtain ⟨vt, vf, tr, fs, h1, h2, h3, h4, h5⟩ := h
  exact ⟨vt, vf, tr, fs, h1, h2.below hb, h3, h4.below hb, h5⟩
theorem OwnPr.base {B C : Nat} {w : World} {v : Value} {p : Px} (h : OwnPr B w v p) (hb : C ≤ B) : OwnPr C w v p := by
  obtain ⟨vt, vf, tr, fs, h1, h2, h3, h4, h5⟩ := h
  exact ⟨vt, vf, tr, fs, h1, h2.base hb, h3, h4.base hb, h5⟩
theorem OwnPr.at {B : Nat} {w : World} {v : Value} {p : Px} (h : OwnPr B w v p) (hs : p.types.length ≤ 100000) (hp : ∀ x ∈ p.types, x.parts.length ≤ 100000) : PrAt w v p := by
  obtain ⟨vt, vf, tr, fs, h1, h2, h3, h4, h5⟩ := h
  refine ⟨vt, vf, h1, ?_, ?_⟩
  · rw [← h3]
    exact h2.tys (by rw [← h3] at hs; simpa using hs) fun x hx => hp _ (by rw [← h3]; exact List.mem_map_of_mem hx)
  · rw [← h5]; exact h4.row
/-- a twin: all of it is the call's own -/
def TwinP (p : Px) (w : World) (e : Ending) (w' : World) : Prop := ∃ u, e = .returned u ∧ OwnPr w.heap.size w' u p ∧ Below w.heap.size w w'

/-! what the types are -/
theorem infoIns : (Tryz.prog.info? 49).map (fun i => (i.zero, i.size, i.bytes)) = some (some (.agg #[.int .u8 0, .int .i64 0, .int .i64 0, .int .i64 0, .int .i64 0, .slice none 0 0, .slice none 0 0]), 7, 88) := by kernel_rfl
theorem infoBlk : (Tryz.prog.info? 47).map (fun i => (i.zero, i.size, i.bytes)) = some (some (.agg #[.slice none 0 0, .int .u8 0, .int .i64 0, .int .i64 0, .int .i64 0]), 5, 56) := by kernel_rfl
theorem infoFn : (Tryz.prog.info? 42).map (fun i => (i.zero, i.size, i.bytes)) = some (some (.agg #[.int .i64 0, .slice none 0 0]), 2, 32) := by kernel_rfl
theorem zeroIns : (Value.agg #[.int .u8 0, .int .i64 0, .int .i64 0, .int .i64 0, .int .i64 0, .slice none 0 0, .slice none 0 0]).cells.size = 7 := by kernel_rfl
theorem zeroBlk : (Value.agg #[.slice none 0 0, .int .u8 0, .int .i64 0, .int .i64 0, .int .i64 0]).cells.size = 5 := by kernel_rfl
theorem zeroFn : (Value.agg #[.int .i64 0, .slice none 0 0]).cells.size = 2 := by kernel_rfl
theorem oneIr (y : Ir) (ha : ∃ a n c, y.va = .slice a n c) (hf : ∃ a n c, y.vf = .slice a n c) : ∀ u ∈ irV y, u.oneCell' = true := by
  obtain ⟨a, n, c, ha⟩ := ha
  obtain ⟨a2, n2, c2, hf⟩ := hf
  intro u hu
  simp only [irV, List.mem_cons, List.not_mem_nil, or_false] at hu
  rcases hu with rfl | rfl | rfl | rfl | rfl | rfl | rfl
  · rfl
  · rfl
  · rfl
  · rfl
  · rfl
  · rw [ha]; rfl
  · rw [hf]; rfl
theorem oneBr (y : Br) (ha : ∃ a n c, y.vi = .slice a n c) : ∀ u ∈ brV y, u.oneCell' = true := by
  obtain ⟨a, n, c, ha⟩ := ha
  intro u hu
  simp only [brV, List.mem_cons, List.not_mem_nil, or_false] at hu
  rcases hu with rfl | rfl | rfl | rfl | rfl
  · rw [ha]; rfl
  · rfl
  · rfl
  · rfl
  · rfl
theorem oneFr (y : Fr) (ha : ∃ a n c, y.vb = .slice a n c) : ∀ u ∈ frV y, u.oneCell' = true := by
  obtain ⟨a, n, c, ha⟩ := ha
  intro u hu
  simp only [frV, List.mem_cons, List.not_mem_nil, or_false] at hu
  rcases hu with rfl | rfl
  · rfl
  · rw [ha]; rfl
end Go.Proofs.YtkcocgdgmlmflaaGreatDoor.RwO
namespace Go.Proofs.YtkcocgdgmlmflaaGreatDoor.TyRT
open Go.RowKit Go.Lib SetP IntO TyM TyP TyB TyW TyT TyD

/-- the first k types, copied -/
def MidR (w : World) (t : List Ty) (k : Nat) (u : Value) (wr : World) : Prop := ∃ r : List Row, r.map Prod.fst = t.take k ∧ OwnT w.heap.size u r wr ∧ Below w.heap.size w wr

theorem row_lit (W : World) (x : Ty) (pv : Value) (n : Nat) (hn : W.heap.size = n) {j : Nat} {u : Value} (hj : (rowVals [(x, pv)])[j]? = some u) :
    (W.alloc (.cells #[.int .u8 x.kind, .int .i64 x.elem, .int .i64 x.many, pv] 78)).cell? ⟨n, 0 + j, none⟩ = some u := by
  subst hn
  unfold World.cell?
  rw [alloc_new, Nat.zero_add]
  simpa [rowVals] using hj
theorem row_ne {w : World} {B b s n : Nat} {e f : TypeId} {v : Value} {xs : List Value} {cs : Array Value} {fr : Nat × Nat} (h : w.ownsRow B e s v n xs) (hb : w.heap[b]? = some (.cells cs f fr)) (hef : e ≠ f) : v.ownBlock ≠ some b := by
  intro hg
  rcases h.2 with ⟨rfl, _⟩ | ⟨g, _, _, rfl, _, h1, _⟩
  · cases hg
  · obtain rfl : g = b := by simpa [Value.ownBlock] using hg
    rw [h1] at hb
    simp at hb
    exact hef hb.2.1
set_option maxHeartbeats 1000000 in
theorem twinR_calls (v : Value) (t : List Ty) (w : World) (ht : TysAt w v t) (hlen : t.length ≤ 20000) (hp : ∀ x ∈ t, x.parts.length ≤ 20000) : Calls Tryz.prog 13 #[v] w (TwinR t w) := by
  have HT := hid ht
  have HP := hid hp
  obtain ⟨ao, cap, rfl⟩ := ht.slice
  clear ht hp
  go_enter Tryz.func13, Tryz.ntmps13
  go_wp2
  go_loopg [3, 4] t.length (fun gk o i wr => ∃ k : Nat, k + gk = t.length ∧ i = .int .i64 k ∧ MidR w t k o wr)
  case atStart => exact ⟨0, by omega, rfl, [], rfl, ⟨World.ownsRow_nil _ _ _ _, by simp⟩, Below.refl _ _⟩
  case round =>
    obtain ⟨k, hk, rfl, hmid⟩ := hrel
    have HK := hid hk
    have HM := hid hmid
    obtain ⟨r, hr, hown, hbe⟩ := hmid
    by_cases hlt : k < t.length
    · have hsz := hbe.size
      obtain ⟨tb, off, rfl, htb, pv, c0, c1, c2, c3, hpv⟩ := (HT.out.below hbe).at k hlt
      have hpl := HP.out _ (List.getElem_mem hlt)
      have HTK : Hid (t.take (k + 1) = t.take k ++ [t[k]]) := List.take_succ_eq_append_getElem hlt
      have HR := hid hr
      have hrl : r.length ≤ 20000 := by have := congrArg List.length hr; simp at this; omega
      clear hr hk HM
      generalize t[k] = x at *
      have hb1 : Below wr.heap.size wr ((wr.alloc (.cells #[.int .u8 x.kind, .int .i64 x.elem, .int .i64 x.many, pv] 78)).alloc (.cells #[] 3)) := ((Below.refl _ _).alloc (Nat.le_refl _) _).alloc (by simp) _
      have ho0 := World.ownsRow_made (base := wr.heap.size + 1) (e := 3) (size := 1) (wr.alloc (.cells #[.int .u8 x.kind, .int .i64 x.elem, .int .i64 x.many, pv] 78)) #[] 0 (by simp) (by decide) (by simp)
      rw [World.size_alloc] at ho0
      have HOWN0 := hid ho0
      clear ho0
      have HPV := hid (hpv.below hb1)
      have HCP := hid (alloc_old (alloc_new wr (.cells #[.int .u8 x.kind, .int .i64 x.elem, .int .i64 x.many, pv] 78)) (.cells #[] 3))
      have HOWN := hid hown
      have HB1 := hid hb1
      have HBE := hid (hbe.trans (hb1.mono hsz))
      obtain ⟨pa, pc, rfl, _⟩ := ints_slice hpv
      have hbs : wr.heap.size + 1 ≤ ((wr.alloc (.cells #[.int .u8 x.kind, .int .i64 x.elem, .int .i64 x.many, .slice pa x.parts.length pc] 78)).alloc (.cells #[] 3)).heap.size := by simp
      clear hpv hown hbe hb1
      go_wp2_with (at_builtin; refine wpList_clone_ints rfl (.tmp 16) (.tmp 18) rfl (wr.heap.size + 1) (.slice (some ⟨wr.heap.size + 1, 0, none⟩) 0 0) rfl HOWN0.out (.slice pa x.parts.length pc) x.parts rfl HPV.out (by omega) hbs ?_)
      intro v' m w1 hv' hb'
      have hcp := (hb'.block _ (by omega)).trans HCP.out
      obtain ⟨cf, fz, hcs, _⟩ := copy_facts hcp (Below.refl _ _)
      have d0 := cf 0 (by simp)
      have d1 := cf 1 (by simp)
      have d2 := cf 2 (by simp)
      have d3 := cf 3 (by simp)
      have z3 := fz 3
      simp only [List.getElem_toArray, List.getElem_cons_succ, List.getElem_cons_zero] at d0 d1 d2 d3
      have hsz1 : wr.heap.size + 1 ≤ w1.heap.size := by have := hb'.size; omega
      have hpf : ∃ a n c, v' = .slice a n c := by
        rcases hv'.2 with ⟨rfl, _⟩ | ⟨_, _, _, rfl, _⟩
        · exact ⟨_, _, _, rfl⟩
        · exact ⟨_, _, _, rfl⟩
      obtain ⟨qa, qn, qc, rfl⟩ := hpf
      -- behind the store, and the new row of one type
      have hbe1 := (HBE.out.trans (hb'.mono (by omega : w.heap.size ≤ wr.heap.size + 1))).setCell (p := ⟨wr.heap.size, 3, none⟩) hsz (.slice qa qn qc)
      have hks : w1.grownBy (w1.setCell ⟨wr.heap.size, 3, none⟩ (.slice qa qn qc)) (some wr.heap.size) := ⟨rfl, rfl, rfl, (by simp [World.setCell]), fun j hj hne => Below.heap_setCell _ _ _ j (fun e => hne (by rw [e]))⟩
      have hv2 := hv'.kept hks (.inr (row_ne hv' hcp (by decide)))
      have hbw : Below wr.heap.size wr (w1.setCell ⟨wr.heap.size, 3, none⟩ (.slice qa qn qc)) := (HB1.out.trans (hb'.mono (by omega))).setCell (p := ⟨wr.heap.size, 3, none⟩) (Nat.le_refl _) _
      have hold := HOWN.out.below hbw
      have hsz2 : (w1.setCell ⟨wr.heap.size, 3, none⟩ (.slice qa qn qc)).heap.size = w1.heap.size := size_set _ _ _
      have ho3 := hold.1.alloc (.cells #[.int .u8 x.kind, .int .i64 x.elem, .int .i64 x.many, .slice qa qn qc] 78)
      have HO3 := hid ho3
      have HX3 : Hid (∀ y ∈ r ++ [(x, Value.slice qa qn qc)], ((w1.setCell ⟨wr.heap.size, 3, none⟩ (.slice qa qn qc)).alloc (.cells #[.int .u8 x.kind, .int .i64 x.elem, .int .i64 x.many, .slice qa qn qc] 78)).ownsRow w.heap.size 3 1 y.2 y.1.parts.length (intVals y.1.parts)) := by
        intro y hy
        rcases List.mem_append.1 hy with hy | hy
        · exact (hold.2 y hy).alloc _
        · rw [List.mem_singleton.1 hy]
          have hm : m = x.parts.length := by have := hv'.1; rw [intVals_length] at this; omega
          subst hm
          exact owns_base (hv2.alloc _) (by omega)
      have HC3 : Hid (0 < [(x, Value.slice qa qn qc)].length → ∃ b off, some (⟨w1.heap.size, 0, none⟩ : Addr) = some ⟨b, off, none⟩ ∧ ∀ j u, (rowVals [(x, Value.slice qa qn qc)])[j]? = some u → ((w1.setCell ⟨wr.heap.size, 3, none⟩ (.slice qa qn qc)).alloc (.cells #[.int .u8 x.kind, .int .i64 x.elem, .int .i64 x.many, .slice qa qn qc] 78)).cell? ⟨b, off + j, none⟩ = some u) :=
        fun _ => ⟨w1.heap.size, 0, rfl, fun j u hj => row_lit _ _ _ _ hsz2 hj⟩
      have HS3 : Hid (∀ y ∈ [(x, Value.slice qa qn qc)], ∃ a n c, y.2 = .slice a n c) := fun y hy => by rw [List.mem_singleton.1 hy]; exact ⟨_, _, _, rfl⟩
      have HBE3 := hid (hbe1.alloc (by rw [hsz2]; omega) (.cells #[.int .u8 x.kind, .int .i64 x.elem, .int .i64 x.many, .slice qa qn qc] 78))
      have hsz3 : w.heap.size ≤ ((w1.setCell ⟨wr.heap.size, 3, none⟩ (.slice qa qn qc)).alloc (.cells #[.int .u8 x.kind, .int .i64 x.elem, .int .i64 x.many, .slice qa qn qc] 78)).heap.size := by rw [World.size_alloc, hsz2]; omega
      clear hold ho3 hbw hv2 hks hbe1 hv' hb' hcp cf fz hcs hsz2 HOWN HBE HB1 HCP HPV HOWN0
      go_wp2_with (at_builtin; refine wpList_clone_tys rfl (.tmp 21) (.tmp 23) rfl w.heap.size _ rfl r.length (rowVals r) HO3.out (by omega) (some ⟨w1.heap.size, 0, none⟩) 1 [(x, .slice qa qn qc)] rfl HS3.out (fun h => by cases h) HC3.out (by simp) hsz3 ?_)
      intro v4 w4 hown4 hgr4
      have hfin : MidR w t (k + 1) v4 w4 := by
        refine ⟨r ++ [(x, .slice qa qn qc)], ?_, ⟨?_, own_kept HX3.out HO3.out hgr4⟩, own_grown HBE3.out HO3.out hgr4 hsz3⟩
        · rw [List.map_append, HR.out, HTK.out]; rfl
        · rw [List.length_append, rowVals_append]; exact hown4
      have HFIN := hid hfin
      clear hfin hown4 hgr4
      go_wp2
      go_roundg (gk - 1)
      case measure => have := HK.out; omega
      case rel => exact ⟨k + 1, by have := HK.out; omega, by go_num, HFIN.out⟩
    · obtain rfl : k = t.length := by have := HK.out; omega
      clear hk hr hown hbe
      have HTL : Hid (t.take t.length = t) := List.take_of_length_le (Nat.le_refl _)
      generalize t.length = n at *
      go_wp2
      go_ret
      obtain ⟨r3, h1, h2, h3⟩ := HM.out
      exact ⟨_, r3, rfl, by rw [h1]; exact HTL.out, h2, h3⟩
end Go.Proofs.YtkcocgdgmlmflaaGreatDoor.TyRT
