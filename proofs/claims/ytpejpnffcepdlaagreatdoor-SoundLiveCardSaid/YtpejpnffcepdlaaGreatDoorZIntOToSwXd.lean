/- Lists of ints: those that lie in memory, and those that a call owns; copies of them. Tables of types as they lie in memory. A world behind another one: what was there is as it was. Cells told of every world behind. A list of numbers without its first. -/
import Derived.Test.YtpejpnffcepdlaaGreatDoorZSetPToSetO
import Derived.Below
import Derived.Laws.AppendOwn
import Derived.Laws.AppendOwnNone
import Derived.Test.YtpejpnffcepdlaaGreatDoorZTyMToShN
namespace Go.Proofs.YtpejpnffcepdlaaGreatDoor.IntO
open Go.RowKit Go.Lib SetP

def intVals (l : List Int) : List Value := l.map (Value.int .i64)
theorem intVals_length (l : List Int) : (intVals l).length = l.length := by simp [intVals]
theorem intVals_append (s t : List Int) : intVals (s ++ t) = intVals s ++ intVals t := by simp [intVals]
theorem intsAt_of_owns {w : World} {B : Nat} {e : TypeId} {v : Value} {n : Nat} {l : List Int} (h : w.ownsRow B e 1 v n (intVals l)) (hl : l.length ≤ 9223372036854775807) : IntsAt w v l := by
 obtain ⟨h1, h2⟩ := h
 rw [intVals_length] at h1
 obtain rfl : n = l.length := by omega
 rcases h2 with ⟨rfl, h0⟩ | ⟨g, cap, cur, rfl, hb, hg, hnc, hcm, hcs, ht⟩
 ·exact ⟨none, 0, by rw [h0], hl, fun h => by omega, fun _ => rfl, by omega⟩
 ·refine ⟨some ⟨g, 0, none⟩, cap, rfl, hl, fun _ => ⟨g, 0, rfl, (Array.getElem?_eq_some_iff.1 hg).1, fun i hi => ?_⟩, (fun h => by cases h), hnc⟩
  unfold World.cell?
  rw [hg]
  have : (intVals l)[i]? = some (.int .i64 l[i]) := by simp [intVals, hi]
  rw [← ht, List.getElem?_take, if_pos (by omega)] at this
  simpa using this

theorem info_int : (Tryz.prog.info? 3).map (fun i => (i.zero, i.size, i.bytes)) = some (some (.int .i64 0), 1, 8) := by kernel_rfl
theorem owns_base {w : World} {B B2 : Nat} {e : TypeId} {size : Nat} {v : Value} {n : Nat} {xs : List Value} (h : w.ownsRow B2 e size v n xs) (hB : B ≤ B2) : w.ownsRow B e size v n xs := by
 obtain ⟨h1, h2⟩ := h
 refine ⟨h1, ?_⟩
 rcases h2 with h2 | ⟨g, cap, cur, a, b, c⟩
 ·exact .inl h2
 ·exact .inr ⟨g, cap, cur, a, Nat.le_trans hB b, c⟩

theorem ownsRow_below {w w' : World} {base : Nat} {e : TypeId} {size : Nat} {v : Value} {n : Nat} {xs : List Value} (h : w.ownsRow base e size v n xs) (hb : Below w.heap.size w w') : w'.ownsRow base e size v n xs := by
 obtain ⟨h1, h2⟩ := h
 refine ⟨h1, ?_⟩
 rcases h2 with h2 | ⟨g, cap, cur, hv, hg, hh, r⟩
 ·exact .inl h2
 ·exact .inr ⟨g, cap, cur, hv, hg, (hb.block g (Array.getElem?_eq_some_iff.1 hh).1).trans hh, r⟩

/-- the cells of a list that lies in memory, as they are appended -/
theorem int_news {w : World} {l : List Int} {b off : Nat} (hc : ∀ i (h : i < l.length), w.cell? ⟨b, off + i, none⟩ = some (.int .i64 l[i])) :
  ∀ j u, (intVals l)[j]? = some u → w.cell? ((⟨b, off, none⟩ : Addr).add j) = some u := by
 intro j u hj
 have hlt : j < l.length := by
  have := (List.getElem?_eq_some_iff.1 hj).1
  rwa [intVals_length] at this
 have hadd : (⟨b, off, none⟩ : Addr).add j = ⟨b, off + j, none⟩ := by unfold Addr.add; split <;> simp_all
 rw [hadd, hc j hlt, ← hj]
 simp [intVals, hlt]
theorem int_one (l : List Int) : ∀ u ∈ intVals l, u.oneCell' = true := by
 intro u hu
 unfold intVals at hu
 obtain ⟨x, _, rfl⟩ := List.mem_map.1 hu
 rfl

/-- a copy of a list -/
theorem wpList_clone_ints {ops : Array Oper} {rest : List Oper} {o : Oper} {a : Act} {w : World} {Q : Exit → Act → World → Prop} (hgd : o.guard = none) (s x : Operand)
  (ho : o.op = .call { callee := .builtin .append, args := #[s, x], argTypes := #[29, 29] })
  (base : Nat) (v0 : Value) (hs : a.eval s = v0) (hown : w.ownsRow base 3 1 v0 0 []) (v : Value) (l : List Int) (hx : a.eval x = v) (hset : IntsAt w v l) (hl : l.length ≤ 100000) (hbase : base ≤ w.heap.size)
  (h : ∀ v' n w', w'.ownsRow base 3 1 v' n (intVals l) → Below base w w' → wpList Tryz.prog ops Q rest (a.put o.dst v') w') : wpList Tryz.prog ops Q (o :: rest) a w := by
 obtain ⟨i0, hi, hz0, hz1, hz2⟩ := info_parts info_int
 obtain ⟨ao, cap, rfl, hll, hm, hz, _⟩ := hset
 have hlt := hown.lt
 cases hao : ao with
 | none =>
  have hl0 : l = [] := by
   by_cases hp : 0 < l.length
   ·obtain ⟨b, off, hb, _⟩ := hm hp
    rw [hao] at hb; cases hb
   ·exact List.eq_nil_of_length_eq_zero (by omega)
  subst hl0
  obtain rfl := hz hao
  subst hao
  exact wpList_append_own_none hgd s x 29 ho base 3 i0 1 Tryz.underlying29 hi v0 0 [] hs hown hx (h v0 0 w hown (Below.refl _ _))
 | some ad =>
  subst hao
  have hnews : ∀ j u, (intVals l)[j]? = some u → w.cell? (ad.add j) = some u := by
   by_cases hp : 0 < l.length
   ·obtain ⟨b, off, hb, _, hc⟩ := hm hp
    cases hb
    exact int_news hc
   ·have hl0 : l = [] := List.eq_nil_of_length_eq_zero (by omega)
    subst hl0
    intro j u hj
    simp [intVals] at hj
  exact wpList_append_own w hgd s x 29 ho base 3 i0 (.int .i64 0) 1 8 Tryz.underlying29 hi hz0 hz1 hz2 rfl (by decide) v0 0 [] hs hown ad l.length cap (intVals l) hx (by rw [intVals_length, Nat.mul_one]) hnews (int_one l) (by unfold maxLen; omega) (by omega) hbase
   fun v' w' hown' hgrow _ => h v' _ w' hown' ((Below.refl _ _).grown hgrow hbase fun k hk => (hlt k hk).1)
/-- a list appended to a row that the call owns -/
theorem wpList_append_ints {ops : Array Oper} {rest : List Oper} {o : Oper} {a : Act} {w : World} {Q : Exit → Act → World → Prop} (hgd : o.guard = none) (s x : Operand)
  (ho : o.op = .call { callee := .builtin .append, args := #[s, x], argTypes := #[29, 29] })
  (base : Nat) (v0 : Value) (hs : a.eval s = v0) (n : Nat) (xs : List Value) (hown : w.ownsRow base 3 1 v0 n xs) (hn : n ≤ 100000) (v : Value) (l : List Int) (hx : a.eval x = v) (hset : IntsAt w v l) (hl : l.length ≤ 100000) (hbase : base ≤ w.heap.size)
  (h : ∀ v' w', w'.ownsRow base 3 1 v' (n + l.length) (xs ++ intVals l) → w.grownBy w' v0.ownBlock → wpList Tryz.prog ops Q rest (a.put o.dst v') w') : wpList Tryz.prog ops Q (o :: rest) a w := by
 obtain ⟨i0, hi, hz0, hz1, hz2⟩ := info_parts info_int
 obtain ⟨ao, cap, rfl, hll, hm, hz, _⟩ := hset
 cases hao : ao with
 | none =>
  have hl0 : l = [] := by
   by_cases hp : 0 < l.length
   ·obtain ⟨b, off, hb, _⟩ := hm hp
    rw [hao] at hb; cases hb
   ·exact List.eq_nil_of_length_eq_zero (by omega)
  subst hl0
  obtain rfl := hz hao
  subst hao
  exact wpList_append_own_none hgd s x 29 ho base 3 i0 1 Tryz.underlying29 hi v0 n xs hs hown hx (h v0 w (by simpa [intVals] using hown) ⟨rfl, rfl, rfl, Nat.le_refl _, fun _ _ _ => rfl⟩)
 | some ad =>
  subst hao
  have hnews : ∀ j u, (intVals l)[j]? = some u → w.cell? (ad.add j) = some u := by
   by_cases hp : 0 < l.length
   ·obtain ⟨b, off, hb, _, hc⟩ := hm hp
    cases hb
    exact int_news hc
   ·have hl0 : l = [] := List.eq_nil_of_length_eq_zero (by omega)
    subst hl0
    intro j u hj
    simp [intVals] at hj
  exact wpList_append_own w hgd s x 29 ho base 3 i0 (.int .i64 0) 1 8 Tryz.underlying29 hi hz0 hz1 hz2 rfl (by decide) v0 n xs hs hown ad l.length cap (intVals l) hx (by rw [intVals_length, Nat.mul_one]) hnews (int_one l) (by unfold maxLen; omega) (by omega) hbase
   fun v' w' hown' hgrow _ => h v' w' hown' hgrow
/-- a list that the call owns -/
def OwnI (l : List Int) (w : World) (e : Ending) (w' : World) : Prop := ∃ u m, e = .returned u ∧ w'.ownsRow w.heap.size 3 1 u m (intVals l) ∧ Below w.heap.size w w'
theorem ownsRow_lit (w : World) (cs : List Value) (ty : TypeId) (n : Nat) (h : cs.length = n) (hn : n ≤ maxLen) : (w.alloc (.cells cs.toArray ty)).ownsRow w.heap.size ty 1 (.slice (some ⟨w.heap.size, 0, none⟩) n n) n cs :=
 ⟨by omega, .inr ⟨w.heap.size, n, cs.toArray, rfl, Nat.le_refl _, heap_alloc_new w _, Nat.le_refl _, hn, by simp [h], by rw [Nat.mul_one, ← h]; simp⟩⟩
end Go.Proofs.YtpejpnffcepdlaaGreatDoor.IntO
namespace Go.Proofs.YtpejpnffcepdlaaGreatDoor.TyP
open Go.RowKit Go.Lib SetP IntO TyM

/-- a type by value -/
abbrev tyV (x : Ty) (pv : Value) : Value := .agg #[.int .u8 x.kind, .int .i64 x.elem, .int .i64 x.many, pv]
/-- what a type's numbers may be -/
def TyOk (x : Ty) : Prop := (0 ≤ x.kind ∧ x.kind ≤ 255) ∧ (-9223372036854775808 ≤ x.elem ∧ x.elem ≤ 9223372036854775807) ∧ (-9223372036854775808 ≤ x.many ∧ x.many ≤ 9223372036854775807) ∧ ∀ n ∈ x.parts, -9223372036854775808 ≤ n ∧ n ≤ 9223372036854775807

/-- a type's four cells -/
def TyIn (w : World) (b o : Nat) (x : Ty) : Prop :=
 ∃ pv, w.cell? ⟨b, o, none⟩ = some (.int .u8 x.kind) ∧ w.cell? ⟨b, o + 1, none⟩ = some (.int .i64 x.elem) ∧ w.cell? ⟨b, o + 2, none⟩ = some (.int .i64 x.many) ∧ w.cell? ⟨b, o + 3, none⟩ = some pv ∧ IntsAt w pv x.parts
theorem TyIn.below {w w' : World} {b o : Nat} {x : Ty} (h : TyIn w b o x) (hlt : b < w.heap.size) (hb : Below w.heap.size w w') : TyIn w' b o x := by
 obtain ⟨pv, h0, h1, h2, h3, h4⟩ := h
 exact ⟨pv, (hb.cell (p := ⟨b, _, none⟩) hlt).trans h0, (hb.cell (p := ⟨b, _, none⟩) hlt).trans h1, (hb.cell (p := ⟨b, _, none⟩) hlt).trans h2, (hb.cell (p := ⟨b, _, none⟩) hlt).trans h3, h4.below hb⟩

/-- a table that lies in memory: its value, and its types -/
def TysAt (w : World) (v : Value) (t : List Ty) : Prop :=
 ∃ ao cap, v = .slice ao t.length cap ∧ t.length ≤ 9223372036854775807 ∧ (0 < t.length → ∃ b off, ao = some ⟨b, off, none⟩ ∧ b < w.heap.size ∧ ∀ i (h : i < t.length), TyIn w b (off + i * 4) t[i]) ∧ (ao = none → cap = 0) ∧ t.length ≤ cap
theorem TysAt.below {w w' : World} {v : Value} {t : List Ty} (h : TysAt w v t) (hb : Below w.heap.size w w') : TysAt w' v t := by
 obtain ⟨ao, cap, hv, hl, hm, hz⟩ := h
 refine ⟨ao, cap, hv, hl, fun h0 => ?_, hz⟩
 obtain ⟨b, off, ha, hlt, hc⟩ := hm h0
 exact ⟨b, off, ha, Nat.lt_of_lt_of_le hlt hb.size, fun i hi => (hc i hi).below hlt hb⟩
theorem TysAt.slice {w : World} {v : Value} {t : List Ty} (h : TysAt w v t) : ∃ ao cap, v = .slice ao t.length cap := by
 obtain ⟨ao, cap, hv, _⟩ := h
 exact ⟨ao, cap, hv⟩
/-- one of them -/
theorem TysAt.at {w : World} {ao : Option Addr} {n cap : Nat} {t : List Ty} (h : TysAt w (.slice ao n cap) t) (k : Nat) (hk : k < t.length) : ∃ b off, ao = some ⟨b, off, none⟩ ∧ b < w.heap.size ∧ TyIn w b (off + k * 4) t[k] := by
 obtain ⟨ao', cap', hv, hl, hm, hz⟩ := h
 cases hv
 obtain ⟨b, off, ha, hlt, hc⟩ := hm (by omega)
 exact ⟨b, off, ha, hlt, hc k hk⟩
theorem ints_at {w : World} {ao : Option Addr} {n cap : Nat} {l : List Int} (h : IntsAt w (.slice ao n cap) l) (k : Nat) (hk : k < l.length) : ∃ b off, ao = some ⟨b, off, none⟩ ∧ b < w.heap.size ∧ w.cell? ⟨b, off + k, none⟩ = some (.int .i64 l[k]) := by
 obtain ⟨ao', cap', hv, hl, hm, hz⟩ := h
 cases hv
 obtain ⟨b, off, ha, hlt, hc⟩ := hm (by omega)
 exact ⟨b, off, ha, hlt, hc k hk⟩
theorem ints_slice {w : World} {v : Value} {l : List Int} (h : IntsAt w v l) : ∃ ao cap, v = .slice ao l.length cap ∧ l.length ≤ 9223372036854775807 := by
 obtain ⟨ao, cap, hv, hl, _⟩ := h
 exact ⟨ao, cap, hv, hl⟩
theorem ints_none (w : World) : IntsAt w (.slice none 0 0) [] := ⟨none, 0, rfl, by simp, (fun h => by simp at h), (fun _ => rfl), by simp⟩
/-- one number, just made -/
theorem ints_one {w : World} {b : Nat} {n : Int} (h : w.cell? ⟨b, 0, none⟩ = some (.int .i64 n)) (hb : b < w.heap.size) : IntsAt w (.slice (some ⟨b, 0, none⟩) 1 1) [n] :=
 ⟨some ⟨b, 0, none⟩, 1, rfl, by simp, fun _ => ⟨b, 0, rfl, hb, fun i hi => by
  obtain rfl : i = 0 := by simpa using hi
  simpa using h⟩, (fun h => by cases h), by simp⟩
theorem ints_cap {w : World} {ao : Option Addr} {n cap : Nat} {l : List Int} (h : IntsAt w (.slice ao n cap) l) : l.length ≤ cap := by
 obtain ⟨ao', cap', hv, _, _, _, hc⟩ := h
 cases hv
 exact hc
theorem bcell {W w1 : World} (hb : Below W.heap.size W w1) : (∀ b o, b < W.heap.size → w1.cell? ⟨b, o, none⟩ = W.cell? ⟨b, o, none⟩) :=
 fun b o h => hb.cell (p := ⟨b, o, none⟩) h
end Go.Proofs.YtpejpnffcepdlaaGreatDoor.TyP
namespace Go.Proofs.YtpejpnffcepdlaaGreatDoor.Aft
open Go.RowKit Go.Lib SetP TyP

/-- w' stands behind W -/
def Aft (W w' : World) : Prop := Below W.heap.size W w'
theorem Aft.refl (W : World) : Aft W W := Below.refl _ _
theorem Aft.go {W wp wa : World} (h : Aft W wp) (hb : Below wp.heap.size wp wa) : Aft W wa := Below.trans h (hb.mono (Below.size h))
theorem Aft.alloc {W wp : World} (h : Aft W wp) (o : Obj) : Aft W (wp.alloc o) := Below.alloc h (Below.size h) o
theorem Aft.drew {W wp : World} (h : Aft W wp) : Aft W wp.drew := Below.drew h
theorem Aft.set {W wp : World} (h : Aft W wp) {b i : Nat} (hb : W.heap.size ≤ b) (u : Value) : Aft W (wp.setCell ⟨b, i, none⟩ u) := Below.setCell h (p := ⟨b, i, none⟩) hb u
theorem Aft.size {W wp : World} (h : Aft W wp) : W.heap.size ≤ wp.heap.size := Below.size h
theorem Aft.trans {W wp wa : World} (h : Aft W wp) (k : Aft wp wa) : Aft W wa := h.go k
theorem Aft.below {W w' : World} (h : Aft W w') : Below W.heap.size W w' := h
/-- behind a world that stands behind -/
theorem Aft.out {w W w' : World} (h : Aft W w') (hb : Below w.heap.size w W) : Below w.heap.size w w' := Below.trans hb (Below.mono h (Below.size hb))
/-- a cell, in every world behind -/
theorem later {W : World} {a : Addr} {v : Value} (h : W.cell? a = some v) : ∀ w', Aft W w' → w'.cell? a = some v := fun _ hb => (Below.cell hb (World.block_lt_of_cell? W a h)).trans h
theorem later_heap {W : World} {b : Nat} {o : Obj} (h : W.heap[b]? = some o) : ∀ w', Aft W w' → w'.heap[b]? = some o := fun _ hb => (Below.block hb b (Array.getElem?_eq_some_iff.1 h).1).trans h
theorem later_cells {W : World} {b : Nat} {cs : Array Value} {ty : TypeId} {fr : Nat × Nat} (h : W.heap[b]? = some (.cells cs ty fr)) (i : Nat) (v : Value) (hi : cs[i]? = some v) : ∀ w', Aft W w' → w'.cell? ⟨b, i, none⟩ = some v :=
 later (by unfold World.cell?; rw [h]; exact hi)
end Go.Proofs.YtpejpnffcepdlaaGreatDoor.Aft
namespace Go.Proofs.YtpejpnffcepdlaaGreatDoor.SwX
open Go.RowKit Go.Lib SetP IntO TyM TyP

theorem ints_drop1 {w : World} {b off cap : Nat} {l : List Int} (h : IntsAt w (.slice (some ⟨b, off, none⟩) l.length cap) l) (hn : 1 ≤ l.length) : IntsAt w (.slice (some ⟨b, off + 1, none⟩) (l.length - 1) (cap - 1)) (l.drop 1) := by
 obtain ⟨ao', cap', hv, hl, hx, hz, hc⟩ := h
 cases hv
 have hlen : (l.drop 1).length = l.length - 1 := by rw [List.length_drop]
 refine ⟨some ⟨b, off + 1, none⟩, cap - 1, by rw [hlen], by rw [hlen]; omega, fun h0 => ?_, (fun h => by cases h), by rw [hlen]; omega⟩
 obtain ⟨b', off', hb, hlt, hcc⟩ := hx (by omega)
 cases hb
 refine ⟨b, off + 1, rfl, hlt, fun i hi => ?_⟩
 rw [hlen] at hi
 have := hcc (1 + i) (by omega)
 rw [show off + (1 + i) = off + 1 + i by omega] at this
 rw [this, List.getElem_drop]
theorem ints_drop2 {w : World} {b off cap : Nat} {l : List Int} (h : IntsAt w (.slice (some ⟨b, off, none⟩) l.length cap) l) (hn : 1 ≤ l.length) : IntsAt w (.slice (if cap = 1 then some ⟨b, off, none⟩ else some ⟨b, off + 1, none⟩) (l.length - 1) (cap - 1)) (l.drop 1) := by
 by_cases hc : cap = 1
 ·rw [if_pos hc]
  obtain ⟨ao', cap', hv, hl, hx, hz, hcc⟩ := h
  cases hv
  have hlen : (l.drop 1).length = l.length - 1 := by rw [List.length_drop]
  exact ⟨some ⟨b, off, none⟩, cap - 1, by rw [hlen], by rw [hlen]; omega, fun h0 => by rw [hlen] at h0; omega, (fun h => by cases h), by rw [hlen]; omega⟩
 ·rw [if_neg hc]
  exact ints_drop1 h hn
theorem ints_cap {w : World} {a : Option Addr} {n cap : Nat} {l : List Int} (h : IntsAt w (.slice a n cap) l) : n ≤ cap := by
 obtain ⟨ao', cap', hv, hl, hx, hz, hc⟩ := h
 cases hv
 exact hc
end Go.Proofs.YtpejpnffcepdlaaGreatDoor.SwX
