/- Answers that are lists of numbers, alone and with an error; old memory stays. A list apart from a row that grows. Tables that are copied. Rows that a call owns, of elements of any size; programs that a call owns. Walk over fescueref03.Twin. -/
import Derived.Test.YtpejpnffcepdlaaGreatDoorZTyBToTyTI
import Derived.Test.YtpejpnffcepdlaaGreatDoorZTyW
import Derived.Test.YtpejpnffcepdlaaGreatDoorZIntOToSwXd
import Derived.Test.YtpejpnffcepdlaaGreatDoorZFresh
import Derived.WalkSpells
import Derived.Laws.NewBlocks
namespace Go.Proofs.YtpejpnffcepdlaaGreatDoor.FwR
open Go.RowKit Go.Lib SetP IntO TyM TyP TyB ShM ShP

/-- a list of numbers, and an error -/
def LstE (l : List Int) (er : Int) (w : World) (e : Ending) (w' : World) : Prop := ∃ u, e = .returned (.tuple #[u, .int .i64 er]) ∧ IntsAt w' u l ∧ Below w.heap.size w w'
/-- a bool, and an error -/
def BoolE (b : Bool) (er : Int) (w : World) (e : Ending) (w' : World) : Prop := e = .returned (.tuple #[.bool b, .int .i64 er]) ∧ Below w.heap.size w w'
/-- numbers that have been written out -/
theorem ints_lit (w : World) (l : List Int) (n : Nat) (cs : Array Value) (hc : cs = (intVals l).toArray) (hn : n = l.length) (hl : l.length ≤ 1000) : IntsAt (w.alloc (.cells cs 3)) (.slice (some ⟨w.heap.size, 0, none⟩) n n) l := by
 subst hc
 subst hn
 exact intsAt_of_owns (ownsRow_lit w (intVals l) 3 l.length (by rw [intVals_length]) (by unfold maxLen; omega)) (by omega)
theorem ints_lit_at (w : World) (l : List Int) (m n : Nat) (cs : Array Value) (hm : w.heap.size = m) (hc : cs = (intVals l).toArray) (hn : n = l.length) (hl : l.length ≤ 1000) : IntsAt (w.alloc (.cells cs 3)) (.slice (some ⟨m, 0, none⟩) n n) l := by
 subst hm
 exact ints_lit w l n cs hc hn hl
theorem owns_lit_at (w W : World) (l : List Int) (m n : Nat) (cs : Array Value) (hw : w.heap.size ≤ W.heap.size) (hm : W.heap.size = m) (hc : cs = (intVals l).toArray) (hn : n = l.length) (hl : l.length ≤ 1000) : (W.alloc (.cells cs 3)).ownsRow w.heap.size 3 1 (.slice (some ⟨m, 0, none⟩) n n) n (intVals l) := by
 subst hm
 subst hc
 subst hn
 exact owns_base (ownsRow_lit W (intVals l) 3 l.length (by rw [intVals_length]) (by unfold maxLen; omega)) hw
/-- a row is kept where another block is written to -/
theorem owns_set {w : World} {base s n g i : Nat} {e : TypeId} {v u : Value} {xs : List Value} (h : w.ownsRow base e s v n xs) (hg : g < base) : (w.setCell ⟨g, i, none⟩ u).ownsRow base e s v n xs := by
 obtain ⟨h1, h2⟩ := h
 refine ⟨h1, ?_⟩
 rcases h2 with h2 | ⟨b, cap, cur, hv, hb, hh, r⟩
 ·exact .inl h2
 ·exact .inr ⟨b, cap, cur, hv, hb, (Below.heap_setCell _ _ _ b (by show b ≠ g; omega)).trans hh, r⟩

/-- a list of numbers whose memory is new -/
def NewI (B : Nat) (w : World) (v : Value) (l : List Int) : Prop := IntsAt w v l ∧ ∀ g off n c, v = .slice (some ⟨g, off, none⟩) n c → B ≤ g
theorem newI_of {w : World} {B n : Nat} {v : Value} {l : List Int} (h : w.ownsRow B 3 1 v n (intVals l)) (hl : l.length ≤ 9223372036854775807) : NewI B w v l := by
 refine ⟨intsAt_of_owns h hl, fun g off n c e => ?_⟩
 rcases h.2 with ⟨rfl, _⟩ | ⟨g', _, _, rfl, hg, _⟩
 ·cases e
 ·cases e; exact hg
theorem newI_none (B : Nat) (w : World) : NewI B w (.slice none 0 0) [] := ⟨ints_none w, fun g off n c e => by cases e⟩
theorem NewI.below {w w' : World} {B : Nat} {v : Value} {l : List Int} (h : NewI B w v l) (hb : Below w.heap.size w w') : NewI B w' v l := ⟨h.1.below hb, h.2⟩
/-- a list in new memory, and an error -/
def LstN (l : List Int) (er : Int) (w : World) (e : Ending) (w' : World) : Prop := ∃ u, e = .returned (.tuple #[u, .int .i64 er]) ∧ NewI w.heap.size w' u l ∧ Below w.heap.size w w'
theorem LstN.e {l : List Int} {er : Int} {w : World} {e : Ending} {w' : World} (h : LstN l er w e w') : LstE l er w e w' := by
 obtain ⟨u, h1, h2, h3⟩ := h
 exact ⟨u, h1, h2.1, h3⟩
/-- a list in new memory -/
def LstRN (l : List Int) (w : World) (e : Ending) (w' : World) : Prop := ∃ u, e = .returned u ∧ NewI w.heap.size w' u l ∧ Below w.heap.size w w'
end Go.Proofs.YtpejpnffcepdlaaGreatDoor.FwR
namespace Go.Proofs.YtpejpnffcepdlaaGreatDoor.FwO
open Go.RowKit Go.Lib SetP IntO TyM TyP TyB ShM ShP FwR Fresh

/-- a list appended to a row that the call owns; where the new row lies -/
theorem wpList_append_intsN {ops : Array Oper} {rest : List Oper} {o : Oper} {a : Act} {w : World} {Q : Exit → Act → World → Prop} (hgd : o.guard = none) (s x : Operand)
  (ho : o.op = .call { callee := .builtin .append, args := #[s, x], argTypes := #[29, 29] })
  (base : Nat) (v0 : Value) (hs : a.eval s = v0) (n : Nat) (xs : List Value) (hown : w.ownsRow base 3 1 v0 n xs) (hn : n ≤ 100000) (v : Value) (l : List Int) (hx : a.eval x = v) (hset : IntsAt w v l) (hl : l.length ≤ 100000) (hbase : base ≤ w.heap.size)
  (h : ∀ v' w', w'.ownsRow base 3 1 v' (n + l.length) (xs ++ intVals l) → w.grownBy w' v0.ownBlock → NewRow w v0 v' → wpList Tryz.prog ops Q rest (a.put o.dst v') w') : wpList Tryz.prog ops Q (o :: rest) a w := by
 obtain ⟨i0, hi, hz0, hz1, hz2⟩ := info_parts info_int
 obtain ⟨ao, cap, rfl, hll, hm, hz, _⟩ := hset
 cases hao : ao with
 | none =>
  have hl0 : l = [] := by
   by_cases hp : 0 < l.length
   ·obtain ⟨b, off, hb, _⟩ := hm hp
    rw [hao] at hb; cases hb
   ·exact List.eq_nil_of_length_eq_zero (by omega)
  subst hl0
  obtain rfl := hz hao
  subst hao
  exact wpList_append_own_none hgd s x 29 ho base 3 i0 1 Tryz.underlying29 hi v0 n xs hs hown hx (h v0 w (by simpa [intVals] using hown) ⟨rfl, rfl, rfl, Nat.le_refl _, fun _ _ _ => rfl⟩ (NewRow.refl _ _))
 | some ad =>
  subst hao
  have hnews : ∀ j u, (intVals l)[j]? = some u → w.cell? (ad.add j) = some u := by
   by_cases hp : 0 < l.length
   ·obtain ⟨b, off, hb, _, hc⟩ := hm hp
    cases hb
    exact int_news hc
   ·have hl0 : l = [] := List.eq_nil_of_length_eq_zero (by omega)
    subst hl0
    intro j u hj
    simp [intVals] at hj
  exact wpList_append_fresh w hgd s x 29 ho base 3 i0 (.int .i64 0) 1 8 Tryz.underlying29 hi hz0 hz1 hz2 rfl (by decide) v0 n xs hs hown ad l.length cap (intVals l) hx (by rw [intVals_length, Nat.mul_one]) hnews (int_one l) (by unfold maxLen; omega) (by omega) hbase
   fun v' w' hown' hgrow hnew => h v' w' hown' hgrow hnew

/-- a list whose block is not a row's -/
def Apart (u : Value) (w : World) (v : Value) : Prop := ∀ g off n c, v = .slice (some ⟨g, off, none⟩) n c → 0 < n → g < w.heap.size ∧ u.ownBlock ≠ some g
theorem Apart.grown {u u1 v : Value} {w w1 : World} (h : Apart u w v) (hg : w.grownBy w1 u.ownBlock) (hr : NewRow w u u1) : Apart u1 w1 v := by
 intro g off n c e hn
 obtain ⟨h1, h2⟩ := h g off n c e hn
 refine ⟨Nat.lt_of_lt_of_le h1 hg.size, ?_⟩
 rcases hr with hr | ⟨g', hr, hg'⟩
 ·rw [hr]; exact h2
 ·rw [hr]; intro e; cases e; omega
theorem Apart.below {u v : Value} {w w1 : World} (h : Apart u w v) (hb : w.heap.size ≤ w1.heap.size) : Apart u w1 v := fun g off n c e hn => ⟨Nat.lt_of_lt_of_le (h g off n c e hn).1 hb, (h g off n c e hn).2⟩
theorem Apart.ints {u v : Value} {w w1 : World} {l : List Int} (h : Apart u w v) (hg : w.grownBy w1 u.ownBlock) (hi : IntsAt w v l) : IntsAt w1 v l := by
 obtain ⟨ao, cap, rfl, hl, hm, hz⟩ := hi
 refine ⟨ao, cap, rfl, hl, fun h0 => ?_, hz⟩
 obtain ⟨b, off, rfl, hlt, hc⟩ := hm h0
 obtain ⟨h1, h2⟩ := h b off _ _ rfl h0
 refine ⟨b, off, rfl, Nat.lt_of_lt_of_le hlt hg.size, fun i hi => ?_⟩
 have hcell := hc i hi
 unfold World.cell? at hcell ⊢
 rw [hg.block b hlt (fun e => h2 e.symm)]
 exact hcell
end Go.Proofs.YtpejpnffcepdlaaGreatDoor.FwO
namespace Go.Proofs.YtpejpnffcepdlaaGreatDoor.TyT
open Go.RowKit Go.Lib SetP IntO TyM TyP TyB TyW

end Go.Proofs.YtpejpnffcepdlaaGreatDoor.TyT
namespace Go.Proofs.YtpejpnffcepdlaaGreatDoor.TyRT
open Go.RowKit Go.Lib SetP IntO TyM TyP TyB TyW TyT

theorem own_grown {B : Nat} {w0 w w' : World} {u : Value} {m : Nat} {xs : List Value} {ty : TypeId} {s : Nat} (hb : Below B w0 w) (ho : w.ownsRow B ty s u m xs) (hg : w.grownBy w' u.ownBlock) (hB : B ≤ w.heap.size) : Below B w0 w' :=
 hb.grown hg hB fun g hgg => by
  rcases ho.2 with ⟨rfl, _⟩ | ⟨g', _, _, rfl, hg', _⟩
  ·cases hgg
  ·have : g' = g := by simpa [Value.ownBlock] using hgg
   omega

end Go.Proofs.YtpejpnffcepdlaaGreatDoor.TyRT
namespace Go.Proofs.YtpejpnffcepdlaaGreatDoor.RwO
open Go.RowKit Go.Lib SetP IntO TyM TyP TyW TyT ShM ShP

/-- the cells of elements, one behind the other -/
def rowOf {ρ : Type} (f : ρ → List Value) (r : List ρ) : List Value := r.flatMap f
theorem rowOf_cons {ρ : Type} (f : ρ → List Value) (x : ρ) (r : List ρ) : rowOf f (x :: r) = f x ++ rowOf f r := rfl
theorem rowOf_append {ρ : Type} (f : ρ → List Value) (a b : List ρ) : rowOf f (a ++ b) = rowOf f a ++ rowOf f b := by simp [rowOf]
theorem rowOf_one {ρ : Type} (f : ρ → List Value) (x : ρ) : rowOf f [x] = f x := by simp [rowOf]
/-- elements of so many cells -/
def Wide {ρ : Type} (f : ρ → List Value) (n : Nat) : Prop := ∀ x, (f x).length = n
theorem Wide.len {ρ : Type} {f : ρ → List Value} {sz : Nat} (h : Wide f sz) : ∀ r : List ρ, (rowOf f r).length = r.length * sz
 | [] => by simp [rowOf]
 | x :: r => by
  have ih := h.len r
  rw [rowOf_cons, List.length_append, ih, h x, List.length_cons, Nat.succ_mul]; omega
theorem Wide.at {ρ : Type} {f : ρ → List Value} {sz : Nat} (h : Wide f sz) : ∀ (r : List ρ) (i : Nat) (hi : i < r.length) (j : Nat), j < sz → (rowOf f r)[i * sz + j]? = (f r[i])[j]?
 | x :: r, 0, _, j, hj => by
  rw [rowOf_cons, Nat.zero_mul, Nat.zero_add, List.getElem?_append_left (by rw [h x]; exact hj)]; rfl
 | x :: r, i + 1, hi, j, hj => by
  have ih := h.at r i (by simpa using hi) j hj
  rw [rowOf_cons, List.getElem?_append_right (by rw [h x, Nat.succ_mul]; omega), h x, show (i + 1) * sz + j - sz = i * sz + j by rw [Nat.succ_mul]; omega]
  exact ih
theorem Wide.set {ρ : Type} {f : ρ → List Value} {sz : Nat} (h : Wide f sz) {v : Value} {j : Nat} (hj : j < sz) : ∀ (r : List ρ) (i : Nat) (hi : i < r.length) (y : ρ), f y = (f r[i]).set j v → (rowOf f r).set (i * sz + j) v = rowOf f (r.set i y)
 | x :: r, 0, _, y, hy => by
  rw [List.set_cons_zero, rowOf_cons, rowOf_cons, Nat.zero_mul, Nat.zero_add, List.set_append_left _ _ (by rw [h x]; exact hj), hy]; rfl
 | x :: r, i + 1, hi, y, hy => by
  have ih := h.set hj r i (by simpa using hi) y hy
  rw [List.set_cons_succ, rowOf_cons, rowOf_cons, List.set_append_right _ _ (by rw [h x, Nat.succ_mul]; omega), h x, show (i + 1) * sz + j - sz = i * sz + j by rw [Nat.succ_mul]; omega, ih]

/-- the type of the block of a row that is owned -/
theorem own_typed {w : World} {C s m : Nat} {f : TypeId} {u : Value} {ys : List Value} (h : w.ownsRow C f s u m ys) : ∀ g, u.ownBlock = some g → ∃ cs fr, w.heap[g]? = some (.cells cs f fr) := by
 intro g hg
 rcases h.2 with ⟨rfl, _⟩ | ⟨g1, _, cur, rfl, _, h1, _⟩
 ·cases hg
 ·obtain rfl : g1 = g := by simpa [Value.ownBlock] using hg
  exact ⟨_, _, h1⟩
/-- a row of another type is kept -/
theorem owns_other {w w' : World} {B s n : Nat} {e f : TypeId} {v : Value} {xs : List Value} {row : Option Nat} (h : w.ownsRow B e s v n xs) (hg : w.grownBy w' row) (hr : ∀ g, row = some g → ∃ cs fr, w.heap[g]? = some (.cells cs f fr)) (hef : e ≠ f) : w'.ownsRow B e s v n xs := by
 refine h.kept hg ?_
 cases hv : v.ownBlock with
 | none => exact .inl rfl
 | some g =>
  refine .inr fun hrow => ?_
  obtain ⟨cs, fr, h1⟩ := hr g hrow.symm
  obtain ⟨cs2, fr2, h2⟩ := own_typed h g hv
  rw [h1] at h2
  simp at h2
  exact hef h2.2.1.symm
theorem own_len {w : World} {B s n : Nat} {e : TypeId} {v : Value} {xs : List Value} (h : w.ownsRow B e s v n xs) : n ≤ 9223372036854775807 := by
 rcases h.2 with ⟨_, rfl⟩ | ⟨_, cap, _, _, _, _, h1, h2, _⟩
 ·omega
 ·unfold maxLen at h2; omega
theorem own_form {w : World} {B s n : Nat} {e : TypeId} {v : Value} {xs : List Value} (h : w.ownsRow B e s v n xs) : ∃ a c, v = .slice a n c := by
 rcases h.2 with ⟨rfl, rfl⟩ | ⟨_, _, _, rfl, _⟩
 ·exact ⟨_, _, rfl⟩
 ·exact ⟨_, _, rfl⟩
/-- a row that is owned lies in memory -/
theorem rowAt_of {α ρ : Type} {sz B : Nat} {te : TypeId} {In : World → Nat → Nat → α → Prop} {f : ρ → List Value} (g : ρ → α) {w : World} {v : Value} {r : List ρ} (hw : Wide f sz) (hp : 0 < sz) (h : w.ownsRow B te sz v r.length (rowOf f r))
  (hin : ∀ b o (y : ρ), y ∈ r → (∀ j u, (f y)[j]? = some u → w.cell? ⟨b, o + j, none⟩ = some u) → In w b o (g y)) : RowAt sz In w v (r.map g) := by
 have hl := own_len h
 by_cases h0 : 0 < r.length
 ·obtain ⟨b, cap, rfl, _, hlt, hn, hc⟩ := row_cells h (by rw [hw.len]; exact Nat.mul_pos h0 hp)
  refine ⟨some ⟨b, 0, none⟩, cap, by simp, by simpa using hl, fun _ => ⟨b, 0, rfl, hlt, fun i hi => ?_⟩, (fun e => by cases e), by simpa using hn⟩
  have hi' : i < r.length := by simpa using hi
  rw [List.getElem_map]
  refine hin b _ r[i] (List.getElem_mem hi') fun j u hj => ?_
  have hjs : j < sz := by have := (List.getElem?_eq_some_iff.1 hj).1; rw [hw] at this; exact this
  have := hw.at r i hi' j hjs
  rw [hj] at this
  rw [Nat.zero_add]
  exact hc _ _ this
 ·obtain rfl : r = [] := List.eq_nil_of_length_eq_zero (by omega)
  rcases h.2 with ⟨rfl, _⟩ | ⟨g, cap, cur, rfl, hg, hb, hn, hm, hs, ht⟩
  ·exact ⟨none, 0, rfl, by simp, (fun h => by simp at h), (fun _ => rfl), by simp⟩
  ·exact ⟨some ⟨g, 0, none⟩, cap, rfl, by simp, (fun h => by simp at h), (fun e => by cases e), by simp⟩

/-- the same, for one operation alone -/
theorem wp_append_row {ρ : Type} {f : ρ → List Value} {sz : Nat} (hw : Wide f sz) (hpos : 0 < sz) {o : Oper} {a : Act} {w : World} {K : Act → World → Prop} {Q : Exit → Act → World → Prop} {ts te : TypeId} {zero : Value} {bytes : Nat}
  (hinfo : (Tryz.prog.info? te).map (fun i => (i.zero, i.size, i.bytes)) = some (some zero, sz, bytes)) (hu : Tryz.prog.underlying ts = some (.slice te)) (hzs : zero.cells.size = sz) (s x : Operand)
  (ho : o.op = .call { callee := .builtin .append, args := #[s, x], argTypes := #[ts, ts] })
  (base : Nat) (v0 : Value) (hs : a.eval s = v0) (k : Nat) (xs : List Value) (hown : w.ownsRow base te sz v0 k xs) (b off n cap : Nat) (r : List ρ) (hn : n = r.length) (hx : a.eval x = .slice (some ⟨b, off, none⟩) n cap)
  (hone : ∀ y ∈ r, ∀ u ∈ f y, u.oneCell' = true) (hcell : ∀ j u, (rowOf f r)[j]? = some u → w.cell? ⟨b, off + j, none⟩ = some u) (hl : k + r.length ≤ maxLen) (hbytes : (k + r.length) * bytes ≤ 140737488355328) (hbase : base ≤ w.heap.size)
  (h : ∀ v' w', w'.ownsRow base te sz v' (k + n) (xs ++ rowOf f r) → w.grownBy w' v0.ownBlock → K (a.put o.dst v') w') : o.wp Tryz.prog a w K Q := by
 subst hn
 obtain ⟨i0, hi, hz0, hz1, hz2⟩ := info_parts hinfo
 have hnews : ∀ j u, (rowOf f r)[j]? = some u → w.cell? ((⟨b, off, none⟩ : Addr).add j) = some u := by
  intro j u hj
  have hadd : (⟨b, off, none⟩ : Addr).add j = ⟨b, off + j, none⟩ := by unfold Addr.add; split <;> simp_all
  rw [hadd]
  exact hcell j u hj
 exact wp_append_own w s x ts ho base te i0 zero sz bytes hu hi hz0 hz1 hz2 hzs hpos v0 k xs hs hown ⟨b, off, none⟩ r.length cap (rowOf f r) hx (hw.len r) hnews
  (fun u hu => by obtain ⟨y, hy, h2⟩ := List.mem_flatMap.1 hu; exact hone y hy u h2) hl hbytes hbase
  fun v' w' hown' hgrow _ => h v' w' hown' hgrow

/-! programs -/
/-- an instruction, a block, a function, with the values of their lists -/
structure Ir where
 x : Ix
 va : Value
 vf : Value
structure Br where
 en : Ex
 vi : Value
 rows : List Ir
structure Fr where
 sig : Int
 vb : Value
 blocks : List Br
def irV (y : Ir) : List Value := [.int .u8 y.x.op, .int .i64 y.x.typ, .int .i64 y.x.a, .int .i64 y.x.b, .int .i64 y.x.n, y.va, y.vf]
def brV (y : Br) : List Value := [y.vi, .int .u8 y.en.kind, .int .i64 y.en.a, .int .i64 y.en.to, .int .i64 y.en.els]
def frV (y : Fr) : List Value := [.int .i64 y.sig, y.vb]
theorem irW : Wide irV 7 := fun _ => rfl
theorem brW : Wide brV 5 := fun _ => rfl
theorem frW : Wide frV 2 := fun _ => rfl
def Br.bx (y : Br) : Bx := ⟨y.rows.map Ir.x, y.en⟩
def Fr.fx (y : Fr) : Fx := ⟨y.sig, y.blocks.map Br.bx⟩

def OwnIr (B : Nat) (w : World) (y : Ir) : Prop := w.ownsRow B 3 1 y.va y.x.args.length (intVals y.x.args) ∧ w.ownsRow B 3 1 y.vf y.x.frm.length (intVals y.x.frm)
def OwnIns (B : Nat) (w : World) (v : Value) (r : List Ir) : Prop := w.ownsRow B 31 7 v r.length (rowOf irV r) ∧ ∀ y ∈ r, OwnIr B w y
def OwnBlks (B : Nat) (w : World) (v : Value) (r : List Br) : Prop := w.ownsRow B 38 5 v r.length (rowOf brV r) ∧ ∀ y ∈ r, OwnIns B w y.vi y.rows
def OwnFns (B : Nat) (w : World) (v : Value) (r : List Fr) : Prop := w.ownsRow B 41 2 v r.length (rowOf frV r) ∧ ∀ y ∈ r, OwnBlks B w y.vb y.blocks

theorem OwnIr.below {B : Nat} {w w' : World} {y : Ir} (h : OwnIr B w y) (hb : Below w.heap.size w w') : OwnIr B w' y := ⟨ownsRow_below h.1 hb, ownsRow_below h.2 hb⟩
theorem OwnIns.below {B : Nat} {w w' : World} {v : Value} {r : List Ir} (h : OwnIns B w v r) (hb : Below w.heap.size w w') : OwnIns B w' v r := ⟨ownsRow_below h.1 hb, fun y hy => (h.2 y hy).below hb⟩
theorem OwnBlks.below {B : Nat} {w w' : World} {v : Value} {r : List Br} (h : OwnBlks B w v r) (hb : Below w.heap.size w w') : OwnBlks B w' v r := ⟨ownsRow_below h.1 hb, fun y hy => (h.2 y hy).below hb⟩
theorem OwnFns.below {B : Nat} {w w' : World} {v : Value} {r : List Fr} (h : OwnFns B w v r) (hb : Below w.heap.size w w') : OwnFns B w' v r := ⟨ownsRow_below h.1 hb, fun y hy => (h.2 y hy).below hb⟩
theorem OwnIr.base {B C : Nat} {w : World} {y : Ir} (h : OwnIr B w y) (hb : C ≤ B) : OwnIr C w y := ⟨owns_base h.1 hb, owns_base h.2 hb⟩
theorem OwnIns.base {B C : Nat} {w : World} {v : Value} {r : List Ir} (h : OwnIns B w v r) (hb : C ≤ B) : OwnIns C w v r := ⟨owns_base h.1 hb, fun y hy => (h.2 y hy).base hb⟩
theorem OwnBlks.base {B C : Nat} {w : World} {v : Value} {r : List Br} (h : OwnBlks B w v r) (hb : C ≤ B) : OwnBlks C w v r := ⟨owns_base h.1 hb, fun y hy => (h.2 y hy).base hb⟩
theorem OwnFns.base {B C : Nat} {w : World} {v : Value} {r : List Fr} (h : OwnFns B w v r) (hb : C ≤ B) : OwnFns C w v r := ⟨owns_base h.1 hb, fun y hy => (h.2 y hy).base hb⟩
/-- kept where a row of another type grows -/
theorem OwnIr.other {B : Nat} {w w' : World} {y : Ir} {f : TypeId} {row : Option Nat} (h : OwnIr B w y) (hg : w.grownBy w' row) (hr : ∀ g, row = some g → ∃ cs fr, w.heap[g]? = some (.cells cs f fr)) (h1 : 3 ≠ f) : OwnIr B w' y := ⟨owns_other h.1 hg hr h1, owns_other h.2 hg hr h1⟩
theorem OwnIns.other {B : Nat} {w w' : World} {v : Value} {r : List Ir} {f : TypeId} {row : Option Nat} (h : OwnIns B w v r) (hg : w.grownBy w' row) (hr : ∀ g, row = some g → ∃ cs fr, w.heap[g]? = some (.cells cs f fr)) (h1 : 3 ≠ f) (h2 : 31 ≠ f) : OwnIns B w' v r := ⟨owns_other h.1 hg hr h2, fun y hy => (h.2 y hy).other hg hr h1⟩
theorem OwnBlks.other {B : Nat} {w w' : World} {v : Value} {r : List Br} {f : TypeId} {row : Option Nat} (h : OwnBlks B w v r) (hg : w.grownBy w' row) (hr : ∀ g, row = some g → ∃ cs fr, w.heap[g]? = some (.cells cs f fr)) (h1 : 3 ≠ f) (h2 : 31 ≠ f) (h3 : 38 ≠ f) : OwnBlks B w' v r := ⟨owns_other h.1 hg hr h3, fun y hy => (h.2 y hy).other hg hr h1 h2⟩

theorem OwnIns.row {B : Nat} {w : World} {v : Value} {r : List Ir} (h : OwnIns B w v r) : InsAt w v (r.map Ir.x) :=
 rowAt_of Ir.x irW (by decide) h.1 fun b o y hy hc => ⟨y.va, y.vf, hc 0 _ rfl, hc 1 _ rfl, hc 2 _ rfl, hc 3 _ rfl, hc 4 _ rfl, hc 5 _ rfl, hc 6 _ rfl, intsAt_of_owns (h.2 y hy).1 (own_len (h.2 y hy).1), intsAt_of_owns (h.2 y hy).2 (own_len (h.2 y hy).2)⟩
theorem OwnBlks.row {B : Nat} {w : World} {v : Value} {r : List Br} (h : OwnBlks B w v r) : BlksAt w v (r.map Br.bx) :=
 rowAt_of Br.bx brW (by decide) h.1 fun b o y hy hc => ⟨y.vi, hc 0 _ rfl, hc 1 _ rfl, hc 2 _ rfl, hc 3 _ rfl, hc 4 _ rfl, (h.2 y hy).row⟩
theorem OwnFns.row {B : Nat} {w : World} {v : Value} {r : List Fr} (h : OwnFns B w v r) : FnsAt w v (r.map Fr.fx) :=
 rowAt_of Fr.fx frW (by decide) h.1 fun b o y hy hc => ⟨y.vb, hc 0 _ rfl, hc 1 _ rfl, (h.2 y hy).row⟩

/-- a program that a call owns -/
def OwnPr (B : Nat) (w : World) (v : Value) (p : Px) : Prop := ∃ vt vf tr fs, v = .agg #[vt, vf] ∧ OwnT B vt tr w ∧ tr.map Prod.fst = p.types ∧ OwnFns B w vf fs ∧ fs.map Fr.fx = p.funcs
theorem OwnPr.below {B : Nat} {w w' : World} {v : Value} {p : Px} (h : OwnPr B w v p) (hb : Below w.heap.size w w') : OwnPr B w' v p := by
 obtain ⟨vt, vf, tr, fs, h1, h2, h3, h4, h5⟩ := h
 exact ⟨vt, vf, tr, fs, h1, h2.below hb, h3, h4.below hb, h5⟩
theorem OwnPr.base {B C : Nat} {w : World} {v : Value} {p : Px} (h : OwnPr B w v p) (hb : C ≤ B) : OwnPr C w v p := by
 obtain ⟨vt, vf, tr, fs, h1, h2, h3, h4, h5⟩ := h
 exact ⟨vt, vf, tr, fs, h1, h2.base hb, h3, h4.base hb, h5⟩
theorem OwnPr.at {B : Nat} {w : World} {v : Value} {p : Px} (h : OwnPr B w v p) (hs : p.types.length ≤ 100000) (hp : ∀ x ∈ p.types, x.parts.length ≤ 100000) : PrAt w v p := by
 obtain ⟨vt, vf, tr, fs, h1, h2, h3, h4, h5⟩ := h
 refine ⟨vt, vf, h1, ?_, ?_⟩
 ·rw [← h3]
  exact h2.tys (by rw [← h3] at hs; simpa using hs) fun x hx => hp _ (by rw [← h3]; exact List.mem_map_of_mem hx)
 ·rw [← h5]; exact h4.row
/-! what the types are -/
end Go.Proofs.YtpejpnffcepdlaaGreatDoor.RwO
namespace Go.Proofs.YtpejpnffcepdlaaGreatDoor.TyRT
open Go.RowKit Go.Lib SetP IntO TyM TyP TyB TyW TyT TyD

end Go.Proofs.YtpejpnffcepdlaaGreatDoor.TyRT
