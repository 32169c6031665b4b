/- The reader's has, whole. An instruction as the reader makes it: its block and the result's, ahead of has and behind it. Walk over the reader's instruction. The reader's instruction, whole. Walk over the reader's block. Walk over the reader's function. Types as the reader gathers them; the deferred closure of program. -/
import Derived.Test.YtbebficgcemkoaaGreatDoorZRcJ
import Derived.Test.YtbebficgcemkoaaGreatDoorZRcO
import Derived.Test.YtbebficgcemkoaaGreatDoorZShAToShAn
import Derived.Test.YtbebficgcemkoaaGreatDoorZRgZToRgY
import Derived.Test.YtbebficgcemkoaaGreatDoorZRcTToRcI
import Derived.Deep.Cut
import Derived.BigRegion
import Derived.Test.YtbebficgcemkoaaGreatDoorZTyW
import Derived.Defers
import Derived.Recover
namespace Go.Proofs.YtbebficgcemkoaaGreatDoor.RcK
open Go.RowKit Go.Lib TyM TyP ShM ShP ShB IntO SetP LxM LxJ LxY RwO RdM RdN RdV RdB RdP Fresh Aft RcP RcA RcB RcC RcD RcT RcN RcU RcH RcI RcJ

variable {W : World} {b : Nat} {L : List Ln} {ws : Ln} {reg : Int} {tv : Value} {w : World}

theorem rest_some {op typ a c : Int} {l : Ln} {y : Ix} {ws' : Ln} (h : restC op typ a c l = some (y, ws')) : ∃ n l3, numC op l = some (n, l3) ∧
    ((argsB op = false ∧ y = ⟨op, typ, a, c, n, [], []⟩ ∧ ws' = l3) ∨ (argsB op = true ∧ op ≠ 22 ∧ ∃ r, marksO 114 l3 = some r ∧ y = ⟨op, typ, a, c, n, r, []⟩ ∧ ws' = []) ∨
      (argsB op = true ∧ op = 22 ∧ ∃ r, pairsO l3 = some r ∧ y = ⟨op, typ, a, c, n, r.map Prod.snd, r.map Prod.fst⟩ ∧ ws' = [])) := by
  unfold restC at h
  cases hn : numC op l with
  | none => rw [hn] at h; cases h
  | some q =>
    obtain ⟨n, l3⟩ := q
    rw [hn] at h
    simp only at h
    refine ⟨n, l3, rfl, ?_⟩
    unfold argC at h
    cases hr : argsB op with
    | false =>
      rw [hr] at h
      simp at h
      exact .inl ⟨rfl, h.1.symm, h.2.symm⟩
    | true =>
      rw [hr] at h
      simp only [if_true] at h
      by_cases h22 : op = 22
      · rw [if_pos h22] at h
        cases hp : pairsO l3 with
        | none => rw [hp] at h; cases h
        | some r =>
          rw [hp] at h
          simp at h
          exact .inr (.inr ⟨rfl, h22, r, rfl, h.1.symm, h.2⟩)
      · rw [if_neg h22] at h
        cases hp : marksO 114 l3 with
        | none => rw [hp] at h; cases h
        | some r =>
          rw [hp] at h
          simp at h
          exact .inr (.inl ⟨rfl, h22, r, rfl, h.1.symm, h.2⟩)
theorem rest_none {op typ a c : Int} {l : Ln} (h : restC op typ a c l = none) : numC op l = none ∨ ∃ n l3, numC op l = some (n, l3) ∧ argsB op = true ∧ ((op ≠ 22 ∧ marksO 114 l3 = none) ∨ (op = 22 ∧ pairsO l3 = none)) := by
  unfold restC at h
  cases hn : numC op l with
  | none => exact .inl rfl
  | some q =>
    obtain ⟨n, l3⟩ := q
    rw [hn] at h
    simp only at h
    refine .inr ⟨n, l3, rfl, ?_⟩
    unfold argC at h
    cases hr : argsB op with
    | false => rw [hr] at h; simp at h
    | true =>
      rw [hr] at h
      simp only [if_true] at h
      refine ⟨rfl, ?_⟩
      by_cases h22 : op = 22
      · rw [if_pos h22] at h
        cases hp : pairsO l3 with
        | none => exact .inr ⟨h22, rfl⟩
        | some r => rw [hp] at h; simp at h
      · rw [if_neg h22] at h
        cases hp : marksO 114 l3 with
        | none => exact .inl ⟨h22, rfl⟩
        | some r => rw [hp] at h; simp at h
theorem two_args {op : Int} (h : twoB op = true) : argsB op = false := by
  unfold twoB at h
  unfold argsB
  simp at h ⊢
  omega
theorem ab_phi {op : Int} (h : hasAB op = true) : (op == 22) = false := by
  unfold hasAB twoB at h
  simp at h ⊢
  omega
/-- what an instruction has, or none -/
theorem has_yes {bx : Nat} {op typ : Int} {y : Ix} {ws' : Ln} (h : HasS W b L ws reg tv w bx (ix0 op typ) (.slice none 0 0) (.slice none 0 0) w) (htab : ShA.Tab W) (h0 : 0 ≤ op) (h22 : op ≤ 22) (hm : hasC op typ ws = some (y, ws')) :
    Calls Tryz.prog 169 #[.pointer (some ⟨b, 0, none⟩), .pointer (some ⟨bx, 0, none⟩)] w (HasO W b L ws' reg tv bx y w) := by
  unfold hasC aC at hm
  cases hA : hasAB op with
  | false =>
    have hB : twoB op = false := by
      cases hB : twoB op with
      | false => rfl
      | true => rw [two_ab hB] at hA; cases hA
    rw [hA, hB] at hm
    simp only [Bool.false_eq_true, if_false] at hm
    obtain ⟨n, l3, hN, ⟨hR, rfl, rfl⟩ | ⟨hR, ho, r, hr, rfl, rfl⟩ | ⟨hR, ho, r, hr, rfl, rfl⟩⟩ := rest_some hm
    · exact has_none00 h htab h0 h22 hA hB hN hR
    · exact has_args00 h htab h0 h22 hA hB hN hR (by simpa using ho) hr
    · exact has_phi00 h htab h0 h22 hA hB hN hR (by simpa using ho) hr
  | true =>
    rw [hA] at hm
    simp only [if_true] at hm
    cases hq : markC 114 ws with
    | none => rw [hq] at hm; cases hm
    | some q =>
      obtain ⟨a, l1⟩ := q
      rw [hq] at hm
      simp only at hm
      cases hB : twoB op with
      | false =>
        rw [hB] at hm
        simp only [Bool.false_eq_true, if_false] at hm
        obtain ⟨n, l3, hN, ⟨hR, rfl, rfl⟩ | ⟨hR, ho, r, hr, rfl, rfl⟩ | ⟨hR, ho, r, hr, rfl, rfl⟩⟩ := rest_some hm
        · exact has_none10 h htab h0 h22 hA hB hq hN hR
        · exact has_args10 h htab h0 h22 hA hB hq hN hR (by simpa using ho) hr
        · have := ab_phi hA
          simp [ho] at this
      | true =>
        rw [hB] at hm
        simp only [if_true] at hm
        cases hq2 : markC 114 l1 with
        | none => rw [hq2] at hm; cases hm
        | some q =>
          obtain ⟨c, l2⟩ := q
          rw [hq2] at hm
          simp only at hm
          obtain ⟨n, l3, hN, ⟨hR, rfl, rfl⟩ | ⟨hR, ho, r, hr, rfl, rfl⟩ | ⟨hR, ho, r, hr, rfl, rfl⟩⟩ := rest_some hm
          · exact has_none11 h htab h0 h22 hA hB hq hq2 hN hR
          · rw [two_args hB] at hR; cases hR
          · rw [two_args hB] at hR; cases hR
theorem has_no {bx : Nat} {op typ : Int} (h : HasS W b L ws reg tv w bx (ix0 op typ) (.slice none 0 0) (.slice none 0 0) w) (htab : ShA.Tab W) (h0 : 0 ≤ op) (h22 : op ≤ 22) (hm : hasC op typ ws = none) :
    Calls Tryz.prog 169 #[.pointer (some ⟨b, 0, none⟩), .pointer (some ⟨bx, 0, none⟩)] w (Out2 b bx w) := by
  unfold hasC aC at hm
  cases hA : hasAB op with
  | false =>
    have hB : twoB op = false := by
      cases hB : twoB op with
      | false => rfl
      | true => rw [two_ab hB] at hA; cases hA
    rw [hA, hB] at hm
    simp only [Bool.false_eq_true, if_false] at hm
    rcases rest_none hm with hN | ⟨n, l3, hN, hR, ⟨ho, hr⟩ | ⟨ho, hr⟩⟩
    · exact has_noN00 h htab h0 h22 hA hB hN
    · exact has_args00_no h htab h0 h22 hA hB hN hR (by simpa using ho) hr
    · exact has_phi00_no h htab h0 h22 hA hB hN hR (by simpa using ho) hr
  | true =>
    rw [hA] at hm
    simp only [if_true] at hm
    cases hq : markC 114 ws with
    | none => exact has_noA h htab h0 h22 hA hq
    | some q =>
      obtain ⟨a, l1⟩ := q
      rw [hq] at hm
      simp only at hm
      cases hB : twoB op with
      | false =>
        rw [hB] at hm
        simp only [Bool.false_eq_true, if_false] at hm
        rcases rest_none hm with hN | ⟨n, l3, hN, hR, ⟨ho, hr⟩ | ⟨ho, hr⟩⟩
        · exact has_noN10 h htab h0 h22 hA hB hq hN
        · exact has_args10_no h htab h0 h22 hA hB hq hN hR (by simpa using ho) hr
        · have := ab_phi hA
          simp [ho] at this
      | true =>
        rw [hB] at hm
        simp only [if_true] at hm
        cases hq2 : markC 114 l1 with
        | none => exact has_noB h htab h0 h22 hA hB hq hq2
        | some q =>
          obtain ⟨c, l2⟩ := q
          rw [hq2] at hm
          simp only at hm
          rcases rest_none hm with hN | ⟨n, l3, hN, hR, _⟩
          · exact has_noN11 h htab h0 h22 hA hB hq hq2 hN
          · rw [two_args hB] at hR; cases hR
end Go.Proofs.YtbebficgcemkoaaGreatDoor.RcK
namespace Go.Proofs.YtbebficgcemkoaaGreatDoor.RcL
open Go.RowKit Go.Lib TyM TyP ShM ShP ShB IntO SetP LxM LxJ LxY RwO RdM RdN RdV RdB RdP Fresh Aft RcP RcA RcB RcC RcD RcT RcH RcI RcK

variable {W : World} {b : Nat} {L : List Ln} {ws : Ln} {reg : Int} {tv : Value} {w : World}

/-- the result's block and the instruction's own -/
structure InsS (W : World) (b : Nat) (L : List Ln) (ws : Ln) (reg : Int) (tv : Value) (w : World) (bx : Nat) (x : Ix) (va vf : Value) (wr : World) : Prop where
  rdr : Rdr W b L ws reg tv wr
  kept : Kept [b] w wr
  res : wr.heap[w.heap.size]? = some (.cells #[.int .u8 0, .int .i64 0, .int .i64 0, .int .i64 0, .int .i64 0, .slice none 0 0, .slice none 0 0] 57 (0, 0))
  box : BoxH w.heap.size bx x va vf wr
  nb : b < w.heap.size
  lo : W.heap.size ≤ w.heap.size
  lt : w.heap.size < bx
theorem InsS.go {bx : Nat} {x : Ix} {va vf : Value} {wr w' : World} {ws' : Ln} {L' : List Ln} {reg' : Int} (h : InsS W b L ws reg tv w bx x va vf wr) (hr : Rdr W b L' ws' reg' tv w') (hk : Kept [b] wr w') : InsS W b L' ws' reg' tv w bx x va vf w' :=
  ⟨hr, h.kept.trans hk, hk.heap h.res (fun e => by have := List.mem_singleton.1 e; have := h.nb; omega), h.box.go h.rdr (by have := h.nb; have := h.lt; omega) hk, h.nb, h.lo, h.lt⟩
theorem InsS.on {bx : Nat} {x : Ix} {va vf : Value} {wr w' : World} (h : InsS W b L ws reg tv w bx x va vf wr) (hk : Below wr.heap.size wr w') : InsS W b L ws reg tv w bx x va vf w' := h.go (h.rdr.on hk) (kept_below hk)
theorem InsS.draw {bx : Nat} {x : Ix} {va vf : Value} {wr : World} (h : InsS W b L ws reg tv w bx x va vf wr) : InsS W b L ws reg tv w bx x va vf wr.drew := h.on ((Below.refl _ wr).drew)
theorem InsS.set {bx i : Nat} {x y : Ix} {va vf : Value} {wr : World} (h : InsS W b L ws reg tv w bx x va vf wr) {u : Value} (hb : BoxH w.heap.size bx y va vf (wr.setCell ⟨bx, i, none⟩ u)) : InsS W b L ws reg tv w bx y va vf (wr.setCell ⟨bx, i, none⟩ u) := by
  have h1 := h.nb; have h2 := h.lt; have h3 := h.lo
  have hk : Kept [bx] wr (wr.setCell ⟨bx, i, none⟩ u) := (Kept.refl [bx] wr).set (.inl (by simp)) u
  exact ⟨Rdr_one h.rdr hk (by omega) (by omega), Kept_new h.kept hk (by omega), hk.heap h.res (fun e => by have := List.mem_singleton.1 e; omega), hb, h1, h3, h2⟩
theorem InsS.regs {bx : Nat} {x : Ix} {va vf : Value} {wr : World} (h : InsS W b L ws reg tv w bx x va vf wr) (q : Int) : InsS W b L ws q tv w bx x va vf (wr.setCell ⟨b, 2, none⟩ (.int .i64 q)) :=
  h.go (h.rdr.regs q) ((Kept.refl [b] wr).set (.inl (by simp)) _)
/-- handed to has -/
theorem InsS.has {bx : Nat} {op typ : Int} {wr : World} (h : InsS W b L ws reg tv w bx (ix0 op typ) (.slice none 0 0) (.slice none 0 0) wr) : HasS W b L ws reg tv wr bx (ix0 op typ) (.slice none 0 0) (.slice none 0 0) wr :=
  ⟨h.rdr, Kept.refl _ _, ⟨h.box.box, World.ownsRow_nil _ _ _ _, World.ownsRow_nil _ _ _ _, fun g hg => by cases hg⟩, by have := h.nb; have := h.lt; omega, by have := h.lo; have := h.lt; omega, (Array.getElem?_eq_some_iff.1 h.box.box).1⟩
theorem kept_two {bx : Nat} {a wr w' : World} (h : Kept [b] a wr) (k : Kept [b, bx] wr w') (hn : a.heap.size ≤ bx) : Kept [b] a w' :=
  ((h.mono (F := [bx, b]) (by simp)).trans (k.mono (F := [bx, b]) (by simp))).new hn
/-- behind has -/
theorem InsS.back {bx : Nat} {x y : Ix} {va vf : Value} {wr w' : World} {ws' : Ln} {v1 v2 : Value} (h : InsS W b L ws reg tv w bx x v1 v2 wr) (k : HasS W b L ws' reg tv wr bx y va vf w') : InsS W b L ws' reg tv w bx y va vf w' := by
  have h1 := h.nb; have h2 := h.lt; have h3 := h.kept.size
  exact ⟨k.rdr, kept_two h.kept k.kept (by omega), k.kept.heap h.res (by simp; omega), ⟨k.box.box, owns_base k.box.owa h3, owns_base k.box.owf h3, k.box.apart⟩, h1, h.lo, h2⟩
theorem InsS.facts {bx : Nat} {x : Ix} {va vf : Value} {wr : World} (h : InsS W b L ws reg tv w bx x va vf wr) : (wr.cell? ⟨bx, 0, none⟩ = some (.int .u8 x.op) ∧ wr.cell? ⟨bx, 1, none⟩ = some (.int .i64 x.typ) ∧ wr.cell? ⟨bx, 2, none⟩ = some (.int .i64 x.a) ∧ wr.cell? ⟨bx, 3, none⟩ = some (.int .i64 x.b) ∧ wr.cell? ⟨bx, 4, none⟩ = some (.int .i64 x.n) ∧ wr.cell? ⟨bx, 5, none⟩ = some va ∧ wr.cell? ⟨bx, 6, none⟩ = some vf) ∧ (∀ i, wr.frozen? ⟨bx, i, none⟩ = false) :=
  ⟨⟨cells_of h.box.box 0 _ rfl, cells_of h.box.box 1 _ rfl, cells_of h.box.box 2 _ rfl, cells_of h.box.box 3 _ rfl, cells_of h.box.box 4 _ rfl, cells_of h.box.box 5 _ rfl, cells_of h.box.box 6 _ rfl⟩, (ShTB.cells_heap h.box.box).2⟩
/-- both blocks made -/
theorem InsS.start {l : Ln} {w1 : World} (h : Rdr W b L l reg tv w1) (hb : b < w.heap.size) (hW : W.heap.size ≤ w.heap.size) (hk : Kept [b] (w.alloc (.cells #[.int .u8 0, .int .i64 0, .int .i64 0, .int .i64 0, .int .i64 0, .slice none 0 0, .slice none 0 0] 57)) w1) :
    InsS W b L l reg tv w w1.heap.size (ix0 0 0) (.slice none 0 0) (.slice none 0 0) (w1.alloc (.cells #[.int .u8 0, .int .i64 0, .int .i64 0, .int .i64 0, .int .i64 0, .slice none 0 0, .slice none 0 0] 57)) := by
  have hs := hk.size
  rw [World.size_alloc] at hs
  refine ⟨h.on (alloc_below _ _), (((Kept.refl [b] w).alloc _).trans hk).alloc _, ?_, ⟨alloc_new _ _, World.ownsRow_nil _ _ _ _, World.ownsRow_nil _ _ _ _, fun g hg => by cases hg⟩, hb, hW, by omega⟩
  exact alloc_old (hk.heap (alloc_new _ _) (fun e => by have := List.mem_singleton.1 e; omega)) _
/-- an instruction, the reader at the line's end -/
def InsO (W : World) (b : Nat) (L : List Ln) (reg : Int) (tv : Value) (y : Ix) (w : World) (e : Ending) (w' : World) : Prop :=
  ∃ va vf, e = .returned (ixV y va vf) ∧ OwnIr w.heap.size w' ⟨y, va, vf⟩ ∧ Rdr W b L [] reg tv w' ∧ Kept [b] w w'
/-- the result's block stored into whole -/
theorem InsS.done {bx : Nat} {y : Ix} {va vf : Value} {wr : World} (h : InsS W b L [] reg tv w bx y va vf wr) :
    ∃ W3, W3 = (((((((wr.setCell ⟨w.heap.size, 0, none⟩ (.int .u8 y.op)).setCell ⟨w.heap.size, 1, none⟩ (.int .i64 y.typ)).setCell ⟨w.heap.size, 2, none⟩ (.int .i64 y.a)).setCell ⟨w.heap.size, 3, none⟩ (.int .i64 y.b)).setCell ⟨w.heap.size, 4, none⟩ (.int .i64 y.n)).setCell ⟨w.heap.size, 5, none⟩ va).setCell ⟨w.heap.size, 6, none⟩ vf) ∧
      W3.heap[w.heap.size]? = some (.cells #[.int .u8 y.op, .int .i64 y.typ, .int .i64 y.a, .int .i64 y.b, .int .i64 y.n, va, vf] 57 (0, 0)) ∧ OwnIr w.heap.size W3 ⟨y, va, vf⟩ ∧ Rdr W b L [] reg tv W3 ∧ Kept [b] w W3 := by
  obtain ⟨W3, h1, h2, h3, h4⟩ := set7_world wr w.heap.size 57 (.int .u8 0) (.int .i64 0) (.int .i64 0) (.int .i64 0) (.int .i64 0) (.slice none 0 0) (.slice none 0 0) (.int .u8 y.op) (.int .i64 y.typ) (.int .i64 y.a) (.int .i64 y.b) (.int .i64 y.n) va vf h.res
  have hbl := h4 0 wr (Below.refl _ _) (Nat.zero_le _)
  have hone := kept_one h2 hbl
  have h5 := h.nb
  exact ⟨W3, h1, h3, ⟨owns_other h.box.owa hone.grown (ShTB.typed_at h.res) (by decide), owns_other h.box.owf hone.grown (ShTB.typed_at h.res) (by decide)⟩, Rdr_one h.rdr hone h.lo (by omega), Kept_new h.kept hone (Nat.le_refl _)⟩
end Go.Proofs.YtbebficgcemkoaaGreatDoor.RcL
namespace Go.Proofs.YtbebficgcemkoaaGreatDoor.RcM
open Go.RowKit Go.Lib TyM TyP ShM ShP ShB IntO SetP LxM LxJ LxY RwO RdM RdN RdV RdB RdP Fresh Aft RgZ RcP RcA RcB RcC RcD RcT RcN RcU RcO RcH RcI RcK RcL
open LxP (LinesAt StrsAt)

variable {W : World} {b : Nat} {L : List Ln} {ws : Ln} {reg : Int} {tv : Value} {w : World}

/-- the first of the words -/
theorem word_first {x : ByteArray} {l : Ln} (h : Rdr W b L (x :: l) reg tv w) : ∃ pb off pc, w.cell? ⟨b, 1, none⟩ = some (.slice (some ⟨pb, off, none⟩) (l.length + 1) pc) ∧ w.cell? ⟨pb, off, none⟩ = some (.string x) := by
  obtain ⟨la, lc, wa, wc, c0, c1, c2, c3, hfz, hl, hw, hb, hL, hn⟩ := h.facts
  obtain ⟨pb, off, rfl, _, d1⟩ := hw.at 0 (by simp)
  rw [Nat.add_zero] at d1
  exact ⟨pb, off, wc, c1, (h.be.cell (p := ⟨pb, off, none⟩) (World.block_lt_of_cell? W _ d1)).trans d1⟩
theorem str_is {z : ByteArray} (h : un z = [61]) : (z.toList == [61]) = true := by rw [str_eq]; exact decide_eq_true h
theorem str_not {z : ByteArray} (h : un z ≠ [61]) : (z.toList == [61]) = false := by rw [str_eq]; exact decide_eq_false h

theorem opL_lt {l : Ln} {k : Nat} {l3 : Ln} (h : opL l = some (k, l3)) : k < 23 := by
  cases l with
  | nil => cases h
  | cons x l =>
    simp only [opL] at h
    cases ho : opC (un x) with
    | none => rw [ho] at h; cases h
    | some j =>
      rw [ho] at h
      cases h
      unfold opC at ho
      split at ho
      · cases ho; omega
      split at ho
      · cases ho
      · cases ho
        have := op_le (un x)
        omega
set_option maxRecDepth 100000 in
set_option maxHeartbeats 16000000 in
theorem in1 {Q : Ending → World → Prop} {x : ByteArray} {l0 : Ln} (h : Rdr W b ((x :: l0) :: L) ws reg tv w) (htab : ShA.Tab W) (hto : TabO W) (mx : (mkN x 114).2 = 0)
    (hy : ∀ y, insC (x :: l0) reg = some y → (-1000000000 ≤ reg ∧ reg ≤ 1000000000) ∧ ∀ e w', InsO W b L (reg + 1) tv y w e w' → Q e w') (hn : insC (x :: l0) reg = none → ∀ e w', Out b w e w' → Q e w') : Calls Tryz.prog 157 #[.pointer (some ⟨b, 0, none⟩)] w Q := by
  obtain ⟨r, hE⟩ : ∃ r, r = insC (x :: l0) reg := ⟨_, rfl⟩
  rw [← hE] at hy hn
  have HY := hid hy
  have HN := hid hn
  unfold insC at hE
  unfold ins1 at hE
  rw [List.getD_cons_zero, if_pos mx, markC_cons, if_pos mx] at hE
  simp only at hE
  have HE := hid hE
  have Kmx := hid mx
  have HTAB := hid htab
  have HTO := hid hto
  have hlt := h.lt
  have hWs := h.be.size
  have HNX := hid (next_yes (h.on (alloc_below w (.cells #[.int .u8 0, .int .i64 0, .int .i64 0, .int .i64 0, .int .i64 0, .slice none 0 0, .slice none 0 0] 57))))
  unfold Goes at HNX
  have HFX := hid ((h.fl.head).2.2 x (by simp)).2
  clear h htab hto hy hn hE mx
  go_enter Tryz.func157, Tryz.ntmps157
  go_wp2_with fail
  refine HNX.out.mono ?_
  rintro e w1 ⟨rfl, hr, hk⟩
  have hi := InsS.start hr hlt hWs hk
  obtain ⟨pb, off, pc, c1, d1⟩ := word_first hi.rdr
  obtain ⟨w2, hw2⟩ : ∃ X, X = w1.alloc (.cells #[.int .u8 0, .int .i64 0, .int .i64 0, .int .i64 0, .int .i64 0, .slice none 0 0, .slice none 0 0] 57) := ⟨_, rfl⟩
  have HW2 := hid hw2
  rw [← hw2] at hi
  have HI0 := hid hi
  have h0n : 0 < l0.length + 1 := by omega
  have h0i : (0 : Int) < ((l0.length + 1 : Nat) : Int) := by omega
  have HLN := hid (hi.rdr.fw.1)
  generalize l0.length + 1 = n0 at *
  clear hi hr hk hw2 HNX
  go_wp2_with fail
  rw [← HW2.out]
  clear c1 d1 h0n h0i HW2
  have HM := hid (mark_calls x HFX.out 114 w2)
  rw [show (((114 : UInt8).toNat : Nat) : Int) = 114 from rfl] at HM
  unfold MkR at HM
  rw [Kmx.out] at HM
  generalize hrg : (mkN x 114).1 = rg at *
  have HRG := hid hrg
  clear hrg
  refine HM.out.mono ?_
  rintro e w3 ⟨rfl, hb⟩
  have HI1 := hid (HI0.out.on hb)
  clear hb HM HI0
  have HD := hid HI1.out.draw
  have HC := hid (mark_yes (c := 114) HD.out.rdr (show markC 114 (x :: l0) = some (rg, l0) by rw [markC_cons, if_pos Kmx.out, HRG.out]))
  rw [show (((114 : UInt8).toNat : Nat) : Int) = 114 from rfl] at HC
  unfold Goes at HC
  have HV0 : Hid (w3.drew.cell? ⟨b, 2, none⟩ = some (.int .i64 reg)) := by
    obtain ⟨_, _, _, _, _, _, c2, _⟩ := HD.out.rdr.facts
    exact c2
  by_cases hq : rg = reg
  rotate_left
  · have hee : (rg == reg) = false := by simpa using hq
    have HQ := hid (HN.out (HE.out.trans (if_neg hq)))
    clear hq
    go_upto_region 6 with fail
    refine wp_region_Z (S := (fun w' => w'.cell? ⟨b, 2, none⟩ = some (.int .i64 reg))) (Z := []) (by kernel_rfl) ?_ (fun hHeld => ?_)
    · (try dsimp only)
      exact HV0.out
    refine zP 0 rfl ?_
    refine zP 2 rfl ?_
    refine zP 3 rfl ?_
    refine zP 4 rfl ?_
    refine zP 5 rfl ?_
    refine zT 6 rfl ?_
    refine zC 1 rfl (fun K hK => ?_)
    go_simp
    (go_at_call 132; (with_reducible refine HC.out.mono ?_); rintro e w4 ⟨rfl, hr1, hk1⟩; have HI2 := hid (HD.out.go hr1 hk1); have HV1 : Hid (w4.cell? ⟨b, 2, none⟩ = some (.int .i64 reg)) := (by obtain ⟨_, _, _, _, _, _, c2, _⟩ := HI2.out.rdr.facts; exact c2); clear hr1 hk1 HC)
    refine hK.out _ _ ?_ (fun hHeld => ?_)
    · (try dsimp only)
      exact HV1.out
    clear hK K
    refine zP 7 rfl ?_
    refine zC 8 rfl (fun K hK => ?_)
    go_simp
    (go_at_call 76)
    refine (must_no w4).mono ?_
    rintro e w5 ⟨rfl, rfl⟩
    have HK9 := hid HI2.out.kept
    exact ⟨rfl, HQ.out _ _ ⟨rfl, HK9.out⟩⟩
  have hee : (rg == reg) = true := by simpa using hq
  have hE := HE.out
  rw [if_pos hq] at hE
  have HE1 := hid hE
  clear hq hE HE
  have HE := HE1
  clear HE1
  go_upto_region 6 with fail
  refine wp_region_noPanic ?_
  refine wp_region_Z (S := (fun w' => w'.cell? ⟨b, 2, none⟩ = some (.int .i64 reg))) (Z := []) (by kernel_rfl) ?_ (fun hHeld => ?_)
  · (try dsimp only)
    exact HV0.out
  refine zP 0 rfl ?_
  refine zP 2 rfl ?_
  refine zP 3 rfl ?_
  refine zP 4 rfl ?_
  refine zP 5 rfl ?_
  refine zT 6 rfl ?_
  refine zC 1 rfl (fun K hK => ?_)
  go_simp
  (go_at_call 132; (with_reducible refine HC.out.mono ?_); rintro e w4 ⟨rfl, hr1, hk1⟩; have HI2 := hid (HD.out.go hr1 hk1); have HV1 : Hid (w4.cell? ⟨b, 2, none⟩ = some (.int .i64 reg)) := (by obtain ⟨_, _, _, _, _, _, c2, _⟩ := HI2.out.rdr.facts; exact c2); clear hr1 hk1 HC)
  refine hK.out _ _ ?_ (fun hHeld => ?_)
  · (try dsimp only)
    exact HV1.out
  clear hK K
  refine zP 7 rfl ?_
  refine zC 8 rfl (fun K hK => ?_)
  go_simp
  (go_at_call 76; (with_reducible refine (must_yes w4).mono ?_); rintro e w5 ⟨rfl, rfl⟩)
  refine hK.out _ _ ?_ (fun hHeld => ?_)
  · (try dsimp only)
    exact HV1.out
  clear hK K
  try simp only [Act.put, List.setIfInBounds_toArray, List.set_cons_zero, List.set_cons_succ]
  refine wpAnyZ_done (by kernel_rfl) ?_ _
  refine NoPanic.normal ?_
  clear HV0 HV1 HD hee
  go_wp2_with fail
  cases ht : markC 116 l0 with
  | none =>
    have hE := HE.out
    rw [ht] at hE
    (try simp only at hE)
    have HQ := hid (HN.out hE)
    have Kt := hid ht
    clear hE ht
    refine (mark_no (c := 116) HI2.out.rdr Kt.out).mono ?_
    rintro e w9 ⟨rfl, hk⟩
    have HK9 := hid (HI2.out.kept.trans hk)
    go_wp2
    exact ⟨rfl, HQ.out _ _ ⟨rfl, HK9.out⟩⟩
  | some tl =>
    obtain ⟨t, l1⟩ := tl
    have hE := HE.out
    rw [ht] at hE
    (try simp only at hE)
    have HE1 := hid hE
    have Kt := hid ht
    clear hE ht HE
    refine (mark_yes (c := 116) HI2.out.rdr Kt.out).mono ?_
    rintro e w5 ⟨rfl, hr, hk⟩
    have hi := HI2.out.go hr hk
    have g1 := hi.facts.1.2.1
    have gz1 := hi.facts.2 1
    obtain ⟨w6, hX⟩ : ∃ X, X = w5.setCell ⟨w1.heap.size, 1, none⟩ (.int .i64 t) := ⟨_, rfl⟩
    have HX := hid hX
    have HI3 : Hid (InsS W b L l1 reg tv w w1.heap.size (ix0 0 t) (.slice none 0 0) (.slice none 0 0) w6) := by show InsS _ _ _ _ _ _ _ _ _ _ _ _; rw [hX]; exact hi.set (hi.box.setT t)
    clear hi hr hk hX HI2
    go_wp2_with fail
    rw [← HX.out]
    clear g1 gz1 HX
    cases l1 with
    | nil =>
      have HQ := hid (HN.out HE1.out)
      refine (word_no HI3.out.rdr).mono ?_
      rintro e w9 ⟨rfl, hk⟩
      have HK9 := hid (HI3.out.kept.trans hk)
      go_wp2
      exact ⟨rfl, HQ.out _ _ ⟨rfl, HK9.out⟩⟩
    | cons z l2 =>
      refine (word_yes HI3.out.rdr).mono ?_
      rintro e w7 ⟨rfl, hr, hk⟩
      have HI4 := hid (HI3.out.go hr hk)
      clear hr hk HI3
      have hE := HE1.out
      simp only [wordC] at hE
      by_cases hz : un z = [61]
      rotate_left
      · rw [if_neg hz] at hE
        have HQ := hid (HN.out hE)
        have hzq := str_not hz
        clear hE hz
        go_wp2_with fail
        refine (must_no w7).mono ?_
        rintro e w9 ⟨rfl, rfl⟩
        have HK9 := hid HI4.out.kept
        go_wp2
        exact ⟨rfl, HQ.out _ _ ⟨rfl, HK9.out⟩⟩
      rw [if_pos hz] at hE
      have HE := hid hE
      have hzq := str_is hz
      clear hE hz HE1
      go_wp2_with fail
      refine (must_yes w7).mono ?_
      rintro e w9 ⟨rfl, rfl⟩
      clear hzq
      go_wp2_with fail
      cases hop : opL l2 with
      | none =>
        have hE := HE.out
        rw [hop] at hE
        (try simp only at hE)
        have HQ := hid (HN.out hE)
        have Kop := hid hop
        clear hE hop
        refine (op_no HI4.out.rdr HTO.out Kop.out).mono ?_
        rintro e w9 ⟨rfl, hk⟩
        have HK9 := hid (HI4.out.kept.trans hk)
        go_wp2
        exact ⟨rfl, HQ.out _ _ ⟨rfl, HK9.out⟩⟩
      | some kl =>
        obtain ⟨k, l3⟩ := kl
        have hE := HE.out
        rw [hop] at hE
        (try simp only at hE)
        have HE2 := hid hE
        have Kk := hid (opL_lt hop)
        have Kop := hid hop
        clear hE hop HE
        refine (op_yes HI4.out.rdr HTO.out Kop.out).mono ?_
        rintro e w10 ⟨rfl, hr, hk⟩
        have hi := HI4.out.go hr hk
        have g0 := hi.facts.1.1
        have gz0 := hi.facts.2 0
        obtain ⟨w11, hX⟩ : ∃ X, X = w10.setCell ⟨w1.heap.size, 0, none⟩ (.int .u8 k) := ⟨_, rfl⟩
        have HX := hid hX
        have HI5 : Hid (InsS W b L l3 reg tv w w1.heap.size (ix0 k t) (.slice none 0 0) (.slice none 0 0) w11) := by show InsS _ _ _ _ _ _ _ _ _ _ _ _; rw [hX]; exact hi.set (hi.box.setO k)
        have g00 : w11.cell? ⟨w1.heap.size, 0, none⟩ = some (.int .u8 k) := HI5.out.facts.1.1
        rw [hX] at g00
        clear hi hr hk hX HI4
        go_wp2_with fail
        rw [← HX.out]
        clear g0 gz0 g00 HX
        refine (ShA.answers_calls k (by omega) (by have := Kk.out; omega) w11 (HTAB.out.on HI5.out.rdr.be)).mono ?_
        rintro e w12 ⟨rfl, hb⟩
        have HI6 := hid (HI5.out.on hb)
        clear hb HI5
        by_cases ha : answersB k = true
        rotate_left
        · have hE := HE2.out
          rw [if_neg ha] at hE
          have HQ := hid (HN.out hE)
          rw [Bool.eq_false_iff.2 ha]
          clear hE ha
          go_wp2_with fail
          refine (must_no w12).mono ?_
          rintro e w9 ⟨rfl, rfl⟩
          have HK9 := hid HI6.out.kept
          go_wp2
          exact ⟨rfl, HQ.out _ _ ⟨rfl, HK9.out⟩⟩
        have hE := HE2.out
        rw [if_pos ha] at hE
        have HE := hid hE
        rw [ha]
        clear hE ha HE2
        go_wp2_with fail
        refine (must_yes w12).mono ?_
        rintro e w9 ⟨rfl, rfl⟩
        go_wp2_with fail
        cases hh : hasC k t l3 with
        | none =>
          have hE := HE.out
          rw [hh] at hE
          (try simp only at hE)
          have HQ := hid (HN.out hE)
          have Kh := hid hh
          clear hE hh
          refine (has_no HI6.out.has HTAB.out (by omega) (by have := Kk.out; omega) Kh.out).mono ?_
          rintro e w9 ⟨rfl, hk⟩
          have HK9 := hid (kept_two HI6.out.kept hk (by have := HI6.out.lt; omega))
          go_wp2
          exact ⟨rfl, HQ.out _ _ ⟨rfl, HK9.out⟩⟩
        | some yl =>
          obtain ⟨y, l4⟩ := yl
          have hE := HE.out
          rw [hh] at hE
          (try simp only at hE)
          have HE2 := hid hE
          have Kh := hid hh
          clear hE hh HE
          refine (has_yes HI6.out.has HTAB.out (by omega) (by have := Kk.out; omega) Kh.out).mono ?_
          rintro e w13 ⟨rfl, va, vf, hh⟩
          have HI7 := hid (HI6.out.back hh)
          clear hh HI6
          go_wp2_with fail
          cases l4 with
          | cons z4 l4 =>
            have HQ := hid (HN.out HE2.out)
            refine (over_no HI7.out.rdr (by simp)).mono ?_
            rintro e w9 ⟨rfl, hk⟩
            have HK9 := hid (HI7.out.kept.trans hk)
            go_wp2
            exact ⟨rfl, HQ.out _ _ ⟨rfl, HK9.out⟩⟩
          | nil =>
            obtain ⟨hreg, hQ⟩ := HY.out y HE2.out
            have Kreg := hid hreg
            have HQ := hid hQ
            clear hreg hQ
            refine (over_yes HI7.out.rdr).mono ?_
            rintro e w14 ⟨rfl, hr, hk⟩
            have hi := HI7.out.go hr hk
            obtain ⟨_, _, _, _, _, _, c2, _, hfz, _⟩ := hi.rdr.facts
            have fz2 := hfz 2
            obtain ⟨w15, hX⟩ : ∃ X, X = w14.setCell ⟨b, 2, none⟩ (.int .i64 (reg + 1)) := ⟨_, rfl⟩
            have hi2 : InsS W b L [] (reg + 1) tv w w1.heap.size y va vf w15 := by rw [hX]; exact hi.regs (reg + 1)
            obtain ⟨f0, f1, f2, f3, f4, f5, f6⟩ := hi2.facts.1
            have hn := hi2.res
            have y0 := cells_of hn 0 _ rfl; have y1 := cells_of hn 1 _ rfl; have y2 := cells_of hn 2 _ rfl; have y3 := cells_of hn 3 _ rfl; have y4 := cells_of hn 4 _ rfl; have y5 := cells_of hn 5 _ rfl; have y6 := cells_of hn 6 _ rfl
            have hz := (ShTB.cells_heap hn).2
            have z0 := hz 0; have z1 := hz 1; have z2 := hz 2; have z3 := hz 3; have z4 := hz 4; have z5 := hz 5; have z6 := hz 6
            obtain ⟨W3, hW3, hk3, ho3, hr3, hkp3⟩ := hi2.done
            have x0 := cells_of hk3 0 _ rfl; have x1 := cells_of hk3 1 _ rfl; have x2 := cells_of hk3 2 _ rfl; have x3 := cells_of hk3 3 _ rfl; have x4 := cells_of hk3 4 _ rfl; have x5 := cells_of hk3 5 _ rfl; have x6 := cells_of hk3 6 _ rfl
            have HW3 := hid hW3
            have HO3 := hid ho3
            have HR3 := hid hr3
            have HK3 := hid hkp3
            have HX := hid hX
            obtain ⟨a1, a2, hva⟩ := own_form hi2.box.owa
            obtain ⟨a3, a4, hvf⟩ := own_form hi2.box.owf
            subst hva
            subst hvf
            have hwr : IntKind.i64.wrap (reg + 1) = reg + 1 := IntWalk.i64_in _ (by have := Kreg.out; omega)
            clear hi hr hk hi2 hn hz hW3 hk3 ho3 hr3 hkp3 HI7 hfz hX
            go_upto_region 14 with fail
            rw [← HX.out]
            clear c2 fz2 hwr HX
            go_wp2
            (try simp only [Exit.inBlock, Exit.then])
            rw [← HW3.out]
            refine bodyPost_ret (by simp [results, Tryz.results157, go_sem, x0, x1, x2, x3, x4, x5, x6]; try rfl) rfl ?_
            exact HQ.out _ _ ⟨_, _, rfl, HO3.out, HR3.out, HK3.out⟩
set_option maxRecDepth 100000 in
set_option maxHeartbeats 16000000 in
theorem in2 {Q : Ending → World → Prop} {x : ByteArray} {l0 : Ln} (h : Rdr W b ((x :: l0) :: L) ws reg tv w) (htab : ShA.Tab W) (hto : TabO W) (mx : (mkN x 114).2 ≠ 0)
    (hy : ∀ y, insC (x :: l0) reg = some y → (-1000000000 ≤ reg ∧ reg ≤ 1000000000) ∧ ∀ e w', InsO W b L (reg + 1) tv y w e w' → Q e w') (hn : insC (x :: l0) reg = none → ∀ e w', Out b w e w' → Q e w') : Calls Tryz.prog 157 #[.pointer (some ⟨b, 0, none⟩)] w Q := by
  obtain ⟨r, hE⟩ : ∃ r, r = insC (x :: l0) reg := ⟨_, rfl⟩
  rw [← hE] at hy hn
  have HY := hid hy
  have HN := hid hn
  unfold insC at hE
  unfold ins2 at hE
  rw [List.getD_cons_zero, if_neg mx] at hE
  have HE := hid hE
  have Kmx := hid mx
  have HTAB := hid htab
  have HTO := hid hto
  have hlt := h.lt
  have hWs := h.be.size
  have HNX := hid (next_yes (h.on (alloc_below w (.cells #[.int .u8 0, .int .i64 0, .int .i64 0, .int .i64 0, .int .i64 0, .slice none 0 0, .slice none 0 0] 57))))
  unfold Goes at HNX
  have HFX := hid ((h.fl.head).2.2 x (by simp)).2
  clear h htab hto hy hn hE mx
  go_enter Tryz.func157, Tryz.ntmps157
  go_wp2_with fail
  refine HNX.out.mono ?_
  rintro e w1 ⟨rfl, hr, hk⟩
  have hi := InsS.start hr hlt hWs hk
  obtain ⟨pb, off, pc, c1, d1⟩ := word_first hi.rdr
  obtain ⟨w2, hw2⟩ : ∃ X, X = w1.alloc (.cells #[.int .u8 0, .int .i64 0, .int .i64 0, .int .i64 0, .int .i64 0, .slice none 0 0, .slice none 0 0] 57) := ⟨_, rfl⟩
  have HW2 := hid hw2
  rw [← hw2] at hi
  have HI0 := hid hi
  have h0n : 0 < l0.length + 1 := by omega
  have h0i : (0 : Int) < ((l0.length + 1 : Nat) : Int) := by omega
  have HLN := hid (hi.rdr.fw.1)
  generalize l0.length + 1 = n0 at *
  clear hi hr hk hw2 HNX
  go_wp2_with fail
  rw [← HW2.out]
  clear c1 d1 h0n h0i HW2
  have HM := hid (mark_calls x HFX.out 114 w2)
  rw [show (((114 : UInt8).toNat : Nat) : Int) = 114 from rfl] at HM
  unfold MkR at HM
  have hzz : ((mkN x 114).2 == 0) = false := by simpa using Kmx.out
  generalize (mkN x 114).2 = zz at *
  generalize hrg : (mkN x 114).1 = rg at *
  have HRG := hid hrg
  clear hrg
  refine HM.out.mono ?_
  rintro e w3 ⟨rfl, hb⟩
  have HI1 := hid (HI0.out.on hb)
  clear hb HM HI0
  go_wp2_with fail
  cases hop : opL (x :: l0) with
  | none =>
    have hE := HE.out
    rw [hop] at hE
    (try simp only at hE)
    have HQ := hid (HN.out hE)
    have Kop := hid hop
    clear hE hop
    refine (op_no HI1.out.rdr HTO.out Kop.out).mono ?_
    rintro e w9 ⟨rfl, hk⟩
    have HK9 := hid (HI1.out.kept.trans hk)
    go_wp2
    exact ⟨rfl, HQ.out _ _ ⟨rfl, HK9.out⟩⟩
  | some kl =>
    obtain ⟨k, l3⟩ := kl
    have hE := HE.out
    rw [hop] at hE
    (try simp only at hE)
    have HE2 := hid hE
    have Kk := hid (opL_lt hop)
    have Kop := hid hop
    clear hE hop HE
    refine (op_yes HI1.out.rdr HTO.out Kop.out).mono ?_
    rintro e w10 ⟨rfl, hr, hk⟩
    have hi := HI1.out.go hr hk
    have g0 := hi.facts.1.1
    have gz0 := hi.facts.2 0
    obtain ⟨w11, hX⟩ : ∃ X, X = w10.setCell ⟨w1.heap.size, 0, none⟩ (.int .u8 k) := ⟨_, rfl⟩
    have HX := hid hX
    have HI5 : Hid (InsS W b L l3 reg tv w w1.heap.size (ix0 k 0) (.slice none 0 0) (.slice none 0 0) w11) := by show InsS _ _ _ _ _ _ _ _ _ _ _ _; rw [hX]; exact hi.set (hi.box.setO k)
    have g00 : w11.cell? ⟨w1.heap.size, 0, none⟩ = some (.int .u8 k) := HI5.out.facts.1.1
    rw [hX] at g00
    clear hi hr hk hX HI1
    go_wp2_with fail
    rw [← HX.out]
    clear g0 gz0 g00 HX
    refine (ShA.answers_calls k (by omega) (by have := Kk.out; omega) w11 (HTAB.out.on HI5.out.rdr.be)).mono ?_
    rintro e w12 ⟨rfl, hb⟩
    have HI6 := hid (HI5.out.on hb)
    clear hb HI5
    by_cases ha : answersB k = true
    · have hE := HE2.out
      rw [if_pos ha] at hE
      have HQ := hid (HN.out hE)
      rw [ha]
      clear hE ha
      go_wp2_with fail
      refine (must_no w12).mono ?_
      rintro e w9 ⟨rfl, rfl⟩
      have HK9 := hid HI6.out.kept
      go_wp2
      exact ⟨rfl, HQ.out _ _ ⟨rfl, HK9.out⟩⟩
    have hE := HE2.out
    rw [if_neg ha] at hE
    have HE := hid hE
    rw [Bool.eq_false_iff.2 ha]
    clear hE ha HE2
    go_wp2_with fail
    refine (must_yes w12).mono ?_
    rintro e w9 ⟨rfl, rfl⟩
    go_wp2_with fail
    cases hh : hasC k 0 l3 with
    | none =>
      have hE := HE.out
      rw [hh] at hE
      (try simp only at hE)
      have HQ := hid (HN.out hE)
      have Kh := hid hh
      clear hE hh
      refine (has_no HI6.out.has HTAB.out (by omega) (by have := Kk.out; omega) Kh.out).mono ?_
      rintro e w9 ⟨rfl, hk⟩
      have HK9 := hid (kept_two HI6.out.kept hk (by have := HI6.out.lt; omega))
      go_wp2
      exact ⟨rfl, HQ.out _ _ ⟨rfl, HK9.out⟩⟩
    | some yl =>
      obtain ⟨y, l4⟩ := yl
      have hE := HE.out
      rw [hh] at hE
      (try simp only at hE)
      have HE2 := hid hE
      have Kh := hid hh
      clear hE hh HE
      refine (has_yes HI6.out.has HTAB.out (by omega) (by have := Kk.out; omega) Kh.out).mono ?_
      rintro e w13 ⟨rfl, va, vf, hh⟩
      have HI7 := hid (HI6.out.back hh)
      clear hh HI6
      go_wp2_with fail
      cases l4 with
      | cons z4 l4 =>
        have HQ := hid (HN.out HE2.out)
        refine (over_no HI7.out.rdr (by simp)).mono ?_
        rintro e w9 ⟨rfl, hk⟩
        have HK9 := hid (HI7.out.kept.trans hk)
        go_wp2
        exact ⟨rfl, HQ.out _ _ ⟨rfl, HK9.out⟩⟩
      | nil =>
        obtain ⟨hreg, hQ⟩ := HY.out y HE2.out
        have Kreg := hid hreg
        have HQ := hid hQ
        clear hreg hQ
        refine (over_yes HI7.out.rdr).mono ?_
        rintro e w14 ⟨rfl, hr, hk⟩
        have hi := HI7.out.go hr hk
        obtain ⟨_, _, _, _, _, _, c2, _, hfz, _⟩ := hi.rdr.facts
        have fz2 := hfz 2
        obtain ⟨w15, hX⟩ : ∃ X, X = w14.setCell ⟨b, 2, none⟩ (.int .i64 (reg + 1)) := ⟨_, rfl⟩
        have hi2 : InsS W b L [] (reg + 1) tv w w1.heap.size y va vf w15 := by rw [hX]; exact hi.regs (reg + 1)
        obtain ⟨f0, f1, f2, f3, f4, f5, f6⟩ := hi2.facts.1
        have hn := hi2.res
        have y0 := cells_of hn 0 _ rfl; have y1 := cells_of hn 1 _ rfl; have y2 := cells_of hn 2 _ rfl; have y3 := cells_of hn 3 _ rfl; have y4 := cells_of hn 4 _ rfl; have y5 := cells_of hn 5 _ rfl; have y6 := cells_of hn 6 _ rfl
        have hz := (ShTB.cells_heap hn).2
        have z0 := hz 0; have z1 := hz 1; have z2 := hz 2; have z3 := hz 3; have z4 := hz 4; have z5 := hz 5; have z6 := hz 6
        obtain ⟨W3, hW3, hk3, ho3, hr3, hkp3⟩ := hi2.done
        have x0 := cells_of hk3 0 _ rfl; have x1 := cells_of hk3 1 _ rfl; have x2 := cells_of hk3 2 _ rfl; have x3 := cells_of hk3 3 _ rfl; have x4 := cells_of hk3 4 _ rfl; have x5 := cells_of hk3 5 _ rfl; have x6 := cells_of hk3 6 _ rfl
        have HW3 := hid hW3
        have HO3 := hid ho3
        have HR3 := hid hr3
        have HK3 := hid hkp3
        have HX := hid hX
        obtain ⟨a1, a2, hva⟩ := own_form hi2.box.owa
        obtain ⟨a3, a4, hvf⟩ := own_form hi2.box.owf
        subst hva
        subst hvf
        have hwr : IntKind.i64.wrap (reg + 1) = reg + 1 := IntWalk.i64_in _ (by have := Kreg.out; omega)
        clear hi hr hk hi2 hn hz hW3 hk3 ho3 hr3 hkp3 HI7 hfz hX
        go_upto_region 14 with fail
        rw [← HX.out]
        clear c2 fz2 hwr HX
        go_wp2
        (try simp only [Exit.inBlock, Exit.then])
        rw [← HW3.out]
        refine bodyPost_ret (by simp [results, Tryz.results157, go_sem, x0, x1, x2, x3, x4, x5, x6]; try rfl) rfl ?_
        exact HQ.out _ _ ⟨_, _, rfl, HO3.out, HR3.out, HK3.out⟩
end Go.Proofs.YtbebficgcemkoaaGreatDoor.RcM
namespace Go.Proofs.YtbebficgcemkoaaGreatDoor.RcQ
open Go.RowKit Go.Lib TyM TyP ShM ShP ShB IntO SetP LxM LxJ LxY RwO RdM RdN RdV RdB Aft RcP RcA RcB RcC RcD RcO RcL RcM

variable {W : World} {b : Nat} {L : List Ln} {ws : Ln} {reg : Int} {tv : Value} {w : World}

theorem done_some {α : Type} {o : Option (α × Ln)} {y : α} (h : done o = some y) : o = some (y, []) := by
  match o, h with
  | some (y, []), h => cases h; rfl
theorem done_none {α : Type} {o : Option (α × Ln)} (h : done o = none) : o = none ∨ ∃ y l, o = some (y, l) ∧ l ≠ [] := by
  match o, h with
  | none, _ => exact .inl rfl
  | some (y, x :: l), _ => exact .inr ⟨y, x :: l, rfl, by simp⟩
theorem ins_any {Q : Ending → World → Prop} {l : Ln} (h : Rdr W b (l :: L) ws reg tv w) (htab : ShA.Tab W) (hto : TabO W)
    (hy : ∀ y, insP l reg = some y → (-1000000000 ≤ reg ∧ reg ≤ 1000000000) ∧ ∀ e w', InsO W b L (reg + 1) tv y w e w' → Q e w') (hn : insP l reg = none → ∀ e w', Out b w e w' → Q e w') :
    Calls Tryz.prog 157 #[.pointer (some ⟨b, 0, none⟩)] w Q := by
  rw [← ins_eq h.fl.head.1 (fun x hx => (h.fl.head.2.2 x hx).1)] at hy hn
  cases l with
  | nil => have := h.fl.head.1; simp at this
  | cons x l0 =>
    by_cases hx : (mkN x 114).2 = 0
    · exact in1 h htab hto hx hy hn
    · exact in2 h htab hto hx hy hn
/-- an instruction, or none -/
theorem ins_yes {l : Ln} {y : Ix} (h : Rdr W b (l :: L) ws reg tv w) (htab : ShA.Tab W) (hto : TabO W) (hreg : -1000000000 ≤ reg ∧ reg ≤ 1000000000) (hm : insP l reg = some y) :
    Calls Tryz.prog 157 #[.pointer (some ⟨b, 0, none⟩)] w (InsO W b L (reg + 1) tv y w) :=
  ins_any h htab hto (fun y' hy => by rw [hm] at hy; cases hy; exact ⟨hreg, fun _ _ h => h⟩) (fun hn => by rw [hm] at hn; cases hn)
theorem ins_no {l : Ln} (h : Rdr W b (l :: L) ws reg tv w) (htab : ShA.Tab W) (hto : TabO W) (hm : insP l reg = none) :
    Calls Tryz.prog 157 #[.pointer (some ⟨b, 0, none⟩)] w (Out b w) :=
  ins_any h htab hto (fun y hy => by rw [hm] at hy; cases hy) (fun _ _ _ h => h)
set_option maxRecDepth 100000 in
set_option maxHeartbeats 2000000 in
theorem ins_nil (h : Rdr W b [] ws reg tv w) : Calls Tryz.prog 157 #[.pointer (some ⟨b, 0, none⟩)] w (Out b w) := by
  have HNX := hid (next_no (h.on (alloc_below w (.cells #[.int .u8 0, .int .i64 0, .int .i64 0, .int .i64 0, .int .i64 0, .slice none 0 0, .slice none 0 0] 57))))
  unfold Out at HNX
  clear h
  go_enter Tryz.func157, Tryz.ntmps157
  go_wp2_with fail
  refine HNX.out.mono ?_
  rintro e w1 ⟨rfl, hk⟩
  have HK := hid (((Kept.refl [b] w).alloc _).trans hk)
  clear hk HNX
  go_wp2
  exact ⟨rfl, rfl, HK.out⟩
end Go.Proofs.YtbebficgcemkoaaGreatDoor.RcQ
namespace Go.Proofs.YtbebficgcemkoaaGreatDoor.RcR
open Go.RowKit Go.Lib TyM TyP ShM ShP ShB IntO SetP LxM LxJ LxY RwO RdM RdN RdV RdB Aft RgZ RcP RcA RcB RcC RcD RcT RcE RcO RcL RcQ

variable {W : World} {b : Nat} {L : List Ln} {ws : Ln} {reg : Int} {tv : Value} {w : World}

/-- instructions ahead of a block's -/
def preB (xs : List Ix) (o : Option (Bx × Nat)) : Option (Bx × Nat) := o.map fun r => (⟨xs ++ r.1.ins, r.1.en⟩, r.2 + xs.length)
theorem preB_nil (o : Option (Bx × Nat)) : preB [] o = o := by
  cases o with
  | none => rfl
  | some r => rfl
theorem preB_pre (xs ys : List Ix) (o : Option (Bx × Nat)) : preB xs (preB ys o) = preB (xs ++ ys) o := by
  cases o with
  | none => rfl
  | some r =>
    unfold preB
    simp
    omega
theorem block_step {l : Ln} {M : List Ln} {q : Int} {y : Ix} (he : isEndB (w0 l) = false) (hy : insP l q = some y) : blockP (l :: M) q = preB [y] (blockP M (q + 1)) := by
  rw [blockP, if_neg (by rw [he]; decide), hy]
  rfl
theorem row_new {ρ : Type} (w : World) (cs : Array Value) (ty : TypeId) (y : ρ) (f : ρ → List Value) (h : f y = cs.toList) : ∀ j u, (rowOf f [y])[j]? = some u → (w.alloc (.cells cs ty)).cell? ⟨w.heap.size, 0 + j, none⟩ = some u := fun j u hj => by
  rw [Nat.zero_add]; unfold World.cell?; rw [alloc_new]; rw [rowOf_one, h] at hj; simpa using hj
theorem set14_world (w : World) (b : Nat) (t : TypeId) (x0 x1 x2 x3 x4 : Value) (u1 u2 u3 u4 : Value) (h : w.heap[b]? = some (.cells #[x0, x1, x2, x3, x4] t (0, 0))) :
    ∃ W3, W3 = ((((w.setCell ⟨b, 1, none⟩ u1).setCell ⟨b, 2, none⟩ u2).setCell ⟨b, 3, none⟩ u3).setCell ⟨b, 4, none⟩ u4) ∧ (∀ k, k ≠ b → W3.heap[k]? = w.heap[k]?) ∧ W3.heap[b]? = some (.cells #[x0, u1, u2, u3, u4] t (0, 0)) ∧ ∀ B a, Below B a w → B ≤ b → Below B a W3 :=
  ⟨_, rfl, fun k hk => (Below.heap_setCell _ _ _ k hk).trans ((Below.heap_setCell _ _ _ k hk).trans ((Below.heap_setCell _ _ _ k hk).trans (Below.heap_setCell _ _ _ k hk))), (ShTB.set_heap' (i := 4) u4 (ShTB.set_heap' (i := 3) u3 (ShTB.set_heap' (i := 2) u2 (ShTB.set_heap' (i := 1) u1 h)))).trans (by simp), fun B a hb hB => ((((hb.setCell (p := ⟨b, 1, none⟩) hB u1).setCell (p := ⟨b, 2, none⟩) hB u2).setCell (p := ⟨b, 3, none⟩) hB u3).setCell (p := ⟨b, 4, none⟩) hB u4)⟩
/-- the result's block, the block's own, its instructions -/
structure BlkS (W : World) (b : Nat) (L : List Ln) (ws : Ln) (reg : Int) (tv : Value) (w : World) (vi : Value) (rows : List Ir) (wr : World) : Prop where
  rdr : Rdr W b L ws reg tv wr
  kept : Kept [b] w wr
  res : wr.heap[w.heap.size]? = some (.cells #[.slice none 0 0, .int .u8 0, .int .i64 0, .int .i64 0, .int .i64 0] 54 (0, 0))
  box : wr.heap[w.heap.size + 1]? = some (.cells #[vi, .int .u8 0, .int .i64 0, .int .i64 0, .int .i64 0] 54 (0, 0))
  own : OwnIns w.heap.size wr vi rows
  nb : b < w.heap.size
  lo : W.heap.size ≤ w.heap.size
theorem ownIns_go {B : Nat} {v : Value} {r : List Ir} {wr w' : World} (h : OwnIns B wr v r) (hr : Rdr W b L ws reg tv wr) (hk : Kept [b] wr w') : OwnIns B w' v r := h.other hk.grown (Rdr_typed hr) (by decide) (by decide)
theorem BlkS.go {vi : Value} {rows : List Ir} {wr w' : World} {ws' : Ln} {L' : List Ln} {reg' : Int} (h : BlkS W b L ws reg tv w vi rows wr) (hr : Rdr W b L' ws' reg' tv w') (hk : Kept [b] wr w') : BlkS W b L' ws' reg' tv w vi rows w' :=
  ⟨hr, h.kept.trans hk, hk.heap h.res (fun e => by have := List.mem_singleton.1 e; have := h.nb; omega), hk.heap h.box (fun e => by have := List.mem_singleton.1 e; have := h.nb; omega), ownIns_go h.own h.rdr hk, h.nb, h.lo⟩
theorem BlkS.on {vi : Value} {rows : List Ir} {wr w' : World} (h : BlkS W b L ws reg tv w vi rows wr) (hk : Below wr.heap.size wr w') : BlkS W b L ws reg tv w vi rows w' := h.go (h.rdr.on hk) (kept_below hk)
theorem BlkS.draw {vi : Value} {rows : List Ir} {wr : World} (h : BlkS W b L ws reg tv w vi rows wr) : BlkS W b L ws reg tv w vi rows wr.drew := h.on ((Below.refl _ wr).drew)
theorem BlkS.start (h : Rdr W b L ws reg tv w) : BlkS W b L ws reg tv w (.slice none 0 0) [] ((w.alloc (.cells #[.slice none 0 0, .int .u8 0, .int .i64 0, .int .i64 0, .int .i64 0] 54)).alloc (.cells #[.slice none 0 0, .int .u8 0, .int .i64 0, .int .i64 0, .int .i64 0] 54)) :=
  ⟨(h.on (alloc_below _ _)).on (alloc_below _ _), ((Kept.refl [b] w).alloc _).alloc _, alloc_old (alloc_new _ _) _, by
    have := alloc_new (w.alloc (.cells #[.slice none 0 0, .int .u8 0, .int .i64 0, .int .i64 0, .int .i64 0] 54)) (.cells #[.slice none 0 0, .int .u8 0, .int .i64 0, .int .i64 0, .int .i64 0] 54)
    rwa [World.size_alloc] at this, ⟨World.ownsRow_nil _ _ _ _, by simp⟩, h.lt, h.be.size⟩
/-- an instruction appended -/
theorem BlkS.grow {vi v5 : Value} {rows : List Ir} {w4 w5 : World} {y : Ir} (h : BlkS W b L ws reg tv w vi rows w4) (hy : OwnIr w.heap.size w4 y) (h5 : w5.ownsRow w.heap.size 57 7 v5 (rows.length + 1) (rowOf irV rows ++ rowOf irV [y])) (hg : w4.grownBy w5 vi.ownBlock) :
    w5.heap[w.heap.size + 1]? = some (.cells #[vi, .int .u8 0, .int .i64 0, .int .i64 0, .int .i64 0] 54 (0, 0)) ∧ BlkS W b L ws reg tv w v5 (rows ++ [y]) (w5.setCell ⟨w.heap.size + 1, 0, none⟩ v5) := by
  obtain ⟨g1, g2, g3⟩ := ShTB.ins_step h.own hy h5 hg h.box
  have hr5 := Rdr_grown h.rdr h.own.1 h.lo (by decide) hg
  have hk5 := Kept_grown h.kept h.own.1 (Nat.le_refl _) hg
  have hs : Kept [w.heap.size + 1] w5 (w5.setCell ⟨w.heap.size + 1, 0, none⟩ v5) := (Kept.refl _ w5).set (.inl (by simp)) v5
  have h1 := h.nb; have h2 := h.lo
  have hne : vi.ownBlock ≠ some w.heap.size := fun e => by
    obtain ⟨cs2, fr2, h3⟩ := own_typed h.own.1 _ e
    rw [h.res] at h3
    simp at h3
  have hres : w5.heap[w.heap.size]? = _ := (hg.block _ (Array.getElem?_eq_some_iff.1 h.res).1 (fun e => hne e.symm)).trans h.res
  exact ⟨g2, ⟨Rdr_one hr5 hs (by omega) (by omega), Kept_new hk5 hs (by omega), hs.heap hres (by simp), g3.trans (by simp), g1, h1, h2⟩⟩
/-- a block, or none -/
def BlockO (W : World) (b : Nat) (L : List Ln) (reg : Int) (tv : Value) (o : Option (Bx × Nat)) (w : World) (e : Ending) (w' : World) : Prop := match o with
  | none => Out b w e w'
  | some (x, n) => ∃ vi rows, e = .returned (bxV x vi) ∧ OwnIns w.heap.size w' vi rows ∧ rows.map Ir.x = x.ins ∧ Rdr W b (L.drop n) [] (reg + x.ins.length) tv w' ∧ Kept [b] w w'
set_option maxRecDepth 100000 in
set_option maxHeartbeats 8000000 in
theorem block_calls (h : Rdr W b L ws reg tv w) (htab : ShA.Tab W) (hto : TabO W) (hreg : 0 ≤ reg ∧ reg + L.length ≤ 1000000000) :
    Calls Tryz.prog 135 #[.pointer (some ⟨b, 0, none⟩)] w (BlockO W b L reg tv (blockP L reg) w) := by
  have HTAB := hid htab
  have HTO := hid hto
  have HREG := hid hreg
  have HLL := hid h.fl.1
  have HS0 := hid (BlkS.start h)
  have HO := hid (Eq.refl (blockP L reg))
  obtain ⟨w2, hw2⟩ : ∃ X, X = (w.alloc (.cells #[.slice none 0 0, .int .u8 0, .int .i64 0, .int .i64 0, .int .i64 0] 54)).alloc (.cells #[.slice none 0 0, .int .u8 0, .int .i64 0, .int .i64 0, .int .i64 0] 54) := ⟨_, rfl⟩
  have HW2 := hid hw2
  rw [← hw2] at HS0
  have HP0 : Hid (blockP L reg = preB (([] : List Ir).map Ir.x) (blockP (L.drop 0) (reg + ((0 : Nat) : Int)))) := by
    show _ = _
    simp only [List.map_nil, preB_nil, List.drop_zero]
    rw [show reg + ((0 : Nat) : Int) = reg by omega]
  generalize hoo : blockP L reg = oo at *
  clear h htab hto hreg hw2 hoo HO
  go_enter Tryz.func135, Tryz.ntmps135
  go_wp2_with fail
  rw [← HW2.out]
  clear HW2
  go_loopg [4, 5] (L.length + 1) (fun gk _ _ wr => ∃ (k : Nat) (ws2 : Ln) (vi : Value) (rows : List Ir), k + gk = L.length + 1 ∧ rows.length = k ∧ oo = preB (rows.map Ir.x) (blockP (L.drop k) (reg + k)) ∧ BlkS W b (L.drop k) ws2 (reg + k) tv w vi rows wr)
  case atStart => exact ⟨0, ws, _, [], by omega, rfl, HP0.out, by rw [show reg + ((0 : Nat) : Int) = reg by omega, List.drop_zero]; exact HS0.out⟩
  case round =>
    obtain ⟨k, ws2, vi, rows, hk, hrl, hp, hs⟩ := hrel
    have HK := hid hk
    have HRL := hid hrl
    have HP := hid hp
    have HS := hid hs
    clear hk hrl hp HS0 HP0
    by_cases he : ∃ l M, L.drop k = l :: M ∧ isEndB (w0 l) = true
    · obtain ⟨l, M, hd, he⟩ := he
      rw [hd] at hs
      cases hx : endP l with
      | none =>
        have HC := hid (end_no hs.rdr he hx)
        unfold Out at HC
        have HN : Hid (oo = none) := by show _ = _; rw [HP.out, hd, blockP, if_pos he, hx]; rfl
        clear hs hd he hx
        go_wp2_with fail
        refine HC.out.mono ?_
        rintro e w3 ⟨rfl, hk⟩
        have HK3 := hid (HS.out.kept.trans hk)
        clear hk HC
        go_wp2
        refine ⟨rfl, ?_⟩
        show BlockO _ _ _ _ _ _ _ _ _
        rw [HN.out]
        exact ⟨rfl, HK3.out⟩
      | some x =>
        have HC := hid (end_yes hs.rdr he hx)
        unfold EndO at HC
        have HN : Hid (oo = some (⟨rows.map Ir.x, x⟩, 1 + k)) := by
          show _ = _
          rw [HP.out, hd, blockP, if_pos he, hx]
          simp [preB, HRL.out]
        have HDM : Hid (L.drop (1 + k) = M) := by
          show List.drop _ _ = _
          have := List.drop_drop (i := 1) (j := k) (l := L)
          rw [hd] at this
          rw [Nat.add_comm]
          simpa using this.symm
        clear hd he hx
        go_wp2_with fail
        refine HC.out.mono ?_
        rintro e w3 ⟨rfl, hr, hk⟩
        have HS2 := hid (hs.go hr hk)
        clear hr hk HC hs
        obtain ⟨X3, hX3⟩ : ∃ X, X = w3.alloc (.cells #[.int .u8 x.kind, .int .i64 x.a, .int .i64 x.to, .int .i64 x.els] 52) := ⟨_, rfl⟩
        have hk3 : X3.heap[w3.heap.size]? = some (.cells #[.int .u8 x.kind, .int .i64 x.a, .int .i64 x.to, .int .i64 x.els] 52 (0, 0)) := by rw [hX3]; exact alloc_new _ _
        have hb3' : Below w3.heap.size w3 X3 := by rw [hX3]; exact alloc_below _ _
        have HX3 := hid hX3
        have HS3 := hid (HS2.out.on hb3')
        have v0 := cells_of hk3 0 _ rfl; have v1 := cells_of hk3 1 _ rfl; have v2 := cells_of hk3 2 _ rfl; have v3 := cells_of hk3 3 _ rfl
        have hbx := HS3.out.box
        have y0 := cells_of hbx 0 _ rfl; have y1 := cells_of hbx 1 _ rfl; have y2 := cells_of hbx 2 _ rfl; have y3 := cells_of hbx 3 _ rfl; have y4 := cells_of hbx 4 _ rfl
        have hz := (ShTB.cells_heap hbx).2
        have z1 := hz 1; have z2 := hz 2; have z3 := hz 3; have z4 := hz 4
        obtain ⟨X4, hX4, hne4, hk4, hb4⟩ := set14_world X3 (w.heap.size + 1) 54 vi (.int .u8 0) (.int .i64 0) (.int .i64 0) (.int .i64 0) (.int .u8 x.kind) (.int .i64 x.a) (.int .i64 x.to) (.int .i64 x.els) hbx
        have HX4 := hid hX4
        have hone4 := kept_one hne4 (hb4 0 X3 (Below.refl _ _) (Nat.zero_le _))
        have hres4 := (hne4 w.heap.size (by omega)).trans HS3.out.res
        have hr4 := Rdr_one HS3.out.rdr hone4 (by have := HS3.out.lo; omega) (by have := HS3.out.nb; omega)
        have hk4' := Kept_new HS3.out.kept hone4 (by omega)
        have ho4 := HS3.out.own.other hone4.grown (ShTB.typed_at hbx) (by decide) (by decide)
        have a0 := cells_of hk4 0 _ rfl; have a1 := cells_of hk4 1 _ rfl; have a2 := cells_of hk4 2 _ rfl; have a3 := cells_of hk4 3 _ rfl; have a4 := cells_of hk4 4 _ rfl
        have b0 := cells_of hres4 0 _ rfl; have b1 := cells_of hres4 1 _ rfl; have b2 := cells_of hres4 2 _ rfl; have b3 := cells_of hres4 3 _ rfl; have b4 := cells_of hres4 4 _ rfl
        have hq := (ShTB.cells_heap hres4).2
        have q0 := hq 0; have q1 := hq 1; have q2 := hq 2; have q3 := hq 3; have q4 := hq 4
        obtain ⟨X5, hX5, hne5, hk5, hb5⟩ := set5_world X4 w.heap.size 54 (.slice none 0 0) (.int .u8 0) (.int .i64 0) (.int .i64 0) (.int .i64 0) vi (.int .u8 x.kind) (.int .i64 x.a) (.int .i64 x.to) (.int .i64 x.els) hres4
        have HX5 := hid hX5
        have hone5 := kept_one hne5 (hb5 0 X4 (Below.refl _ _) (Nat.zero_le _))
        have HR5 := hid (Rdr_one hr4 hone5 HS3.out.lo (by have := HS3.out.nb; omega))
        have HK5 := hid (Kept_new hk4' hone5 (Nat.le_refl _))
        have HO5 := hid (ho4.other hone5.grown (ShTB.typed_at hres4) (by decide) (by decide))
        have x0 := cells_of hk5 0 _ rfl; have x1 := cells_of hk5 1 _ rfl; have x2 := cells_of hk5 2 _ rfl; have x3 := cells_of hk5 3 _ rfl; have x4 := cells_of hk5 4 _ rfl
        obtain ⟨i1, i2, hvi⟩ := own_form HS3.out.own.1
        subst hvi
        clear hX3 hk3 hb3' hbx hz hX4 hne4 hk4 hb4 hone4 hres4 hr4 hk4' ho4 hq hX5 hne5 hk5 hb5 hone5 HS2 HS3 HS
        go_upto_region 4 with fail
        rw [← HX3.out]
        go_upto_region 5 with fail
        rw [← HX4.out]
        clear y0 y1 y2 y3 y4 z1 z2 z3 z4 v0 v1 v2 v3
        go_wp2
        (try simp only [Exit.inBlock, Exit.then])
        rw [← HX5.out]
        refine bodyPost_ret (by simp [results, Tryz.results135, go_sem, x0, x1, x2, x3, x4]; try rfl) rfl ?_
        show BlockO _ _ _ _ _ _ _ _ _
        rw [HN.out]
        refine ⟨_, rows, rfl, HO5.out, rfl, ?_, HK5.out⟩
        rw [HDM.out]
        simp only [List.length_map]
        rw [HRL.out]
        exact HR5.out
    have hw : ∀ l M, L.drop k = l :: M → isEndB (w0 l) = false := fun l M hd => by
      cases hx : isEndB (w0 l) with
      | false => rfl
      | true => exact absurd ⟨l, M, hd, hx⟩ he
    have HC := hid (end_off hs.rdr hw)
    unfold EndO at HC
    have HW := hid hw
    clear he hw
    go_wp2_with fail
    refine HC.out.mono ?_
    rintro e w3 ⟨rfl, hr, hk⟩
    have HS2 := hid (hs.go hr hk)
    clear hr hk HC hs
    obtain ⟨X3, hX3⟩ : ∃ X, X = w3.alloc (.cells #[.int .u8 0, .int .i64 0, .int .i64 0, .int .i64 0] 52) := ⟨_, rfl⟩
    have hk3 : X3.heap[w3.heap.size]? = some (.cells #[.int .u8 0, .int .i64 0, .int .i64 0, .int .i64 0] 52 (0, 0)) := by rw [hX3]; exact alloc_new _ _
    have hb3' : Below w3.heap.size w3 X3 := by rw [hX3]; exact alloc_below _ _
    have HX3 := hid hX3
    have HS3 := hid (HS2.out.on hb3')
    clear hX3 hk3 hb3' HS2 HS
    obtain ⟨i1, i2, hvi⟩ := own_form HS3.out.own.1
    subst hvi
    have HD := hid HS3.out.draw
    have HV0 : Hid (X3.drew.cell? ⟨w.heap.size + 1, 0, none⟩ = some (.slice i1 rows.length i2)) := cells_of HD.out.box 0 _ rfl
    cases hd : L.drop k with
    | nil =>
      have hrd := HD.out.rdr
      rw [hd] at hrd
      have HC := hid (ins_nil hrd)
      unfold Out at HC
      have HN : Hid (oo = none) := by show _ = _; rw [HP.out, hd]; rfl
      clear hrd hd
      go_upto_region 6 with fail
      rw [← HX3.out]
      refine wp_region_Z (S := (fun w' => w'.cell? ⟨w.heap.size + 1, 0, none⟩ = some (.slice i1 rows.length i2))) (Z := [7]) (by kernel_rfl) ?_ (fun hHeld => ?_)
      · (try dsimp only)
        exact HV0.out
      refine zP 0 rfl ?_
      refine zT 1 rfl ?_
      refine zP 2 rfl ?_
      refine zC 3 rfl (fun K hK => ?_)
      go_simp
      (go_at_call 157)
      refine HC.out.mono ?_
      rintro e w9 ⟨rfl, hk⟩
      have HK9 := hid (HD.out.kept.trans hk)
      clear hk
      refine ⟨rfl, ?_⟩
      show BlockO _ _ _ _ _ _ _ _ _
      rw [HN.out]
      exact ⟨rfl, HK9.out⟩
    | cons l M =>
      have he := HW.out l M hd
      have hrd := HD.out.rdr
      rw [hd] at hrd
      have HLT : Hid (k < L.length) := by
        show _ < _
        have := congrArg List.length hd
        rw [List.length_drop] at this
        simp at this
        omega
      have HRG : Hid (-1000000000 ≤ reg + (k : Int) ∧ reg + (k : Int) ≤ 1000000000) := by
        have h1 := HREG.out
        have h2 := HLT.out
        show _ ∧ _
        omega
      cases hy : insP l (reg + k) with
      | none =>
        have HC := hid (ins_no hrd HTAB.out HTO.out hy)
        unfold Out at HC
        have HN : Hid (oo = none) := by show _ = _; rw [HP.out, hd, blockP, if_neg (by rw [he]; decide), hy]; rfl
        clear hrd hd hy he
        go_upto_region 6 with fail
        rw [← HX3.out]
        refine wp_region_Z (S := (fun w' => w'.cell? ⟨w.heap.size + 1, 0, none⟩ = some (.slice i1 rows.length i2))) (Z := [7]) (by kernel_rfl) ?_ (fun hHeld => ?_)
        · (try dsimp only)
          exact HV0.out
        refine zP 0 rfl ?_
        refine zT 1 rfl ?_
        refine zP 2 rfl ?_
        refine zC 3 rfl (fun K hK => ?_)
        go_simp
        (go_at_call 157)
        refine HC.out.mono ?_
        rintro e w9 ⟨rfl, hk⟩
        have HK9 := hid (HD.out.kept.trans hk)
        clear hk
        refine ⟨rfl, ?_⟩
        show BlockO _ _ _ _ _ _ _ _ _
        rw [HN.out]
        exact ⟨rfl, HK9.out⟩
      | some y =>
        have HC := hid (ins_yes hrd HTAB.out HTO.out HRG.out hy)
        unfold InsO at HC
        have HP2 : Hid (oo = preB (rows.map Ir.x ++ [y]) (blockP M (reg + ((k + 1 : Nat) : Int)))) := by
          show _ = _
          rw [HP.out, hd, block_step he hy, preB_pre]
          rw [show reg + (k : Int) + 1 = reg + ((k + 1 : Nat) : Int) by omega]
        have HDM : Hid (L.drop (k + 1) = M) := by
          show List.drop _ _ = _
          have := List.drop_drop (i := 1) (j := k) (l := L)
          rw [hd] at this
          simpa [Nat.add_comm] using this.symm
        clear hrd hd hy he
        go_upto_region 6 with fail
        rw [← HX3.out]
        clear HX3
        refine wp_region_noPanic ?_
        refine wp_region_Z (S := (fun w' => w'.cell? ⟨w.heap.size + 1, 0, none⟩ = some (.slice i1 rows.length i2))) (Z := [7]) (by kernel_rfl) ?_ (fun hHeld => ?_)
        · (try dsimp only)
          exact HV0.out
        refine zP 0 rfl ?_
        refine zT 1 rfl ?_
        refine zP 2 rfl ?_
        refine zC 3 rfl (fun K hK => ?_)
        go_simp
        (go_at_call 157; (with_reducible refine HC.out.mono ?_); rintro e w4 ⟨va, vf, rfl, hoy, hr1, hk1⟩; obtain ⟨ja, jc, rfl⟩ : ∃ a c, va = .slice a y.args.length c := own_form hoy.1; obtain ⟨fa, fc, rfl⟩ : ∃ a c, vf = .slice a y.frm.length c := own_form hoy.2; have HS4 := hid (HD.out.go hr1 hk1); have HOY := hid (show OwnIr w.heap.size w4 _ from hoy.base HD.out.kept.size); have HV1 : Hid (w4.cell? ⟨w.heap.size + 1, 0, none⟩ = some (.slice i1 rows.length i2)) := cells_of HS4.out.box 0 _ rfl; clear hr1 hk1 hoy HC)
        refine hK.out _ _ ?_ (fun hHeld => ?_)
        · (try dsimp only)
          exact HV1.out
        clear hK K
        refine zC 4 rfl (fun K hK => ?_)
        go_simp
        refine hK.out _ _ ?_ (fun hHeld => ?_)
        · (try dsimp only)
          exact keep_below (alloc_below _ _) HV1.out
        clear hK K
        refine zC 5 rfl (fun K hK => ?_)
        rw [if_pos (by rfl)]
        have hb5 := alloc_below w4 (.cells #[.int .u8 y.op, .int .i64 y.typ, .int .i64 y.a, .int .i64 y.b, .int .i64 y.n, .slice ja y.args.length jc, .slice fa y.frm.length fc] 57)
        have HS5 := hid (HS4.out.on hb5)
        have HOY5 := hid (HOY.out.below hb5)
        have hsz : w.heap.size ≤ (w4.alloc (.cells #[.int .u8 y.op, .int .i64 y.typ, .int .i64 y.a, .int .i64 y.b, .int .i64 y.n, .slice ja y.args.length jc, .slice fa y.frm.length fc] 57)).heap.size := HS5.out.kept.size
        refine wp_append_row irW (by decide) infoIns Tryz.underlying50 zeroIns (.tmp 16) (.tmp 19) rfl w.heap.size (.slice i1 rows.length i2) rfl rows.length (rowOf irV rows) HS5.out.own.1 w4.heap.size 0 1 1 [(⟨y, .slice ja y.args.length jc, .slice fa y.frm.length fc⟩ : Ir)] rfl rfl (fun z hz => by rw [List.mem_singleton.1 hz]; exact oneIr _ ⟨_, _, _, rfl⟩ ⟨_, _, _, rfl⟩) (row_new _ _ _ _ irV rfl) (by have := HRL.out; have := HLT.out; have := HLL.out; unfold maxLen; simp; omega) (by have := HRL.out; have := HLT.out; have := HLL.out; simp; omega) hsz ?_
        intro v5 w5 hown5 hgr5
        obtain ⟨g1, g2⟩ := HS5.out.grow HOY5.out hown5 hgr5
        obtain ⟨p5, c5, h50⟩ := own_form hown5
        subst h50
        have HS6 := hid g2
        have HB6 := hid g1
        have HV2 : Hid (w5.cell? ⟨w.heap.size + 1, 0, none⟩ = some (.slice i1 rows.length i2)) := cells_of g1 0 _ rfl
        clear hown5 hgr5 g1 g2 hsz hb5
        refine hK.out _ _ ?_ (fun hHeld => ?_)
        · (try dsimp only)
          exact HV2.out
        clear hK K
        refine zP 6 rfl ?_
        refine zL 7 rfl (fun K hK => ?_)
        have zz := (ShTB.cells_heap HB6.out).2 0
        have yy := HV2.out
        go_simp
        refine hK.out _ _ ?_
        clear hK K
        refine wpAnyZ_done (by kernel_rfl) ?_ _
        refine NoPanic.normal ?_
        clear HV0 HV1 HV2 HB6 HOY HOY5 HS4 HS5 HD HS3
        go_wp2
        go_roundg (gk - 1)
        case measure => have := HK.out; have := HLT.out; omega
        case rel => exact ⟨k + 1, [], _, rows ++ [(⟨y, .slice ja y.args.length jc, .slice fa y.frm.length fc⟩ : Ir)], by have := HK.out; have := HLT.out; omega, by have := HRL.out; simp; omega, by rw [HP2.out, HDM.out, List.map_append]; rfl, by rw [HDM.out, show reg + ((k + 1 : Nat) : Int) = reg + (k : Int) + 1 by omega]; exact HS6.out⟩
end Go.Proofs.YtbebficgcemkoaaGreatDoor.RcR
namespace Go.Proofs.YtbebficgcemkoaaGreatDoor.RcS
open Go.RowKit Go.Lib TyM TyP ShM ShP ShB IntO SetP LxM LxJ LxY RwO RdM RdN RdV RdB Aft RgZ RcP RcA RcB RcC RcD RcT RcO RcL RcQ RcR

variable {W : World} {b : Nat} {L : List Ln} {ws : Ln} {reg : Int} {tv : Value} {w : World}

theorem mk_range {x : ByteArray} {c : UInt8} (h : (mkN x c).2 = 0) : 0 ≤ (mkN x c).1 ∧ (mkN x c).1 ≤ 999 := by
  rw [RdN.mk_un] at h ⊢
  unfold RdN.mkL at h ⊢
  split at h
  · cases h
  · rename_i y t
    split at h
    · rename_i hy
      simp only [hy, if_true] at h ⊢
      unfold NumG.sm at h ⊢
      rw [if_neg (by omega)] at h ⊢
      split at h
      · rename_i hc
        rw [if_pos hc]
        exact hc.2
      · cases h
    · cases h
theorem mark_range {c : UInt8} {l : Ln} {n : Int} {l2 : Ln} (h : markC c l = some (n, l2)) : 0 ≤ n ∧ n ≤ 999 := by
  cases l with
  | nil => cases h
  | cons x l =>
    rw [markC_cons] at h
    split at h
    · rename_i hx; cases h; exact mk_range hx
    · cases h
/-- blocks ahead of a function's -/
def preF (bs : List Bx) (k : Nat) (o : Option (List Bx × Nat)) : Option (List Bx × Nat) := o.map fun r => (bs ++ r.1, k + r.2)
theorem preF_nil (o : Option (List Bx × Nat)) : preF [] 0 o = o := by
  cases o with
  | none => rfl
  | some r => simp [preF]
theorem preF_pre (bs cs : List Bx) (j k : Nat) (o : Option (List Bx × Nat)) : preF bs j (preF cs k o) = preF (bs ++ cs) (j + k) o := by
  cases o with
  | none => rfl
  | some r =>
    unfold preF
    simp
    omega
theorem blocks_step {l : Ln} {M : List Ln} {q : Int} {x : Bx} {n : Nat} (hl : w0 l = [98, 108, 111, 99, 107]) (h1 : l.length = 1) (hx : blockP M q = some (x, n)) : blocksP (l :: M) q = preF [x] (1 + n) (blocksP (M.drop n) (q + x.ins.length)) := by
  rw [blocks_cons, if_pos hl, if_pos h1, hx]
  simp only
  cases blocksP (M.drop n) (q + x.ins.length) with
  | none => rfl
  | some r => rfl
theorem one_line {l : Ln} (h1 : 1 ≤ l.length) : (l.drop 1 = []) ↔ l.length = 1 := by
  rw [List.drop_eq_nil_iff]
  omega
/-- the result's block, the function's own, its blocks -/
structure FunS (W : World) (b : Nat) (L : List Ln) (ws : Ln) (reg : Int) (tv : Value) (w : World) (bx : Nat) (sig : Int) (vb : Value) (bs : List Br) (wr : World) : Prop where
  rdr : Rdr W b L ws reg tv wr
  kept : Kept [b] w wr
  res : wr.heap[w.heap.size]? = some (.cells #[.int .i64 0, .slice none 0 0] 49 (0, 0))
  box : wr.heap[bx]? = some (.cells #[.int .i64 sig, vb] 49 (0, 0))
  own : OwnBlks w.heap.size wr vb bs
  nb : b < w.heap.size
  lo : W.heap.size ≤ w.heap.size
  lt : w.heap.size < bx
theorem ownBlks_go {B : Nat} {v : Value} {r : List Br} {wr w' : World} (h : OwnBlks B wr v r) (hr : Rdr W b L ws reg tv wr) (hk : Kept [b] wr w') : OwnBlks B w' v r := h.other hk.grown (Rdr_typed hr) (by decide) (by decide) (by decide)
theorem FunS.go {bx : Nat} {sig : Int} {vb : Value} {bs : List Br} {wr w' : World} {ws' : Ln} {L' : List Ln} {reg' : Int} (h : FunS W b L ws reg tv w bx sig vb bs wr) (hr : Rdr W b L' ws' reg' tv w') (hk : Kept [b] wr w') : FunS W b L' ws' reg' tv w bx sig vb bs w' :=
  ⟨hr, h.kept.trans hk, hk.heap h.res (fun e => by have := List.mem_singleton.1 e; have := h.nb; omega), hk.heap h.box (fun e => by have := List.mem_singleton.1 e; have := h.nb; have := h.lt; omega), ownBlks_go h.own h.rdr hk, h.nb, h.lo, h.lt⟩
theorem FunS.on {bx : Nat} {sig : Int} {vb : Value} {bs : List Br} {wr w' : World} (h : FunS W b L ws reg tv w bx sig vb bs wr) (hk : Below wr.heap.size wr w') : FunS W b L ws reg tv w bx sig vb bs w' := h.go (h.rdr.on hk) (kept_below hk)
theorem FunS.draw {bx : Nat} {sig : Int} {vb : Value} {bs : List Br} {wr : World} (h : FunS W b L ws reg tv w bx sig vb bs wr) : FunS W b L ws reg tv w bx sig vb bs wr.drew := h.on ((Below.refl _ wr).drew)
theorem FunS.regs {bx : Nat} {sig : Int} {vb : Value} {bs : List Br} {wr : World} (h : FunS W b L ws reg tv w bx sig vb bs wr) (q : Int) : FunS W b L ws q tv w bx sig vb bs (wr.setCell ⟨b, 2, none⟩ (.int .i64 q)) := h.go (h.rdr.regs q) ((Kept.refl [b] wr).set (.inl (by simp)) _)
theorem FunS.start {w1 : World} {sig : Int} (h : Rdr W b L ws reg tv w1) (hb : b < w.heap.size) (hW : W.heap.size ≤ w.heap.size) (hk : Kept [b] (w.alloc (.cells #[.int .i64 0, .slice none 0 0] 49)) w1) : FunS W b L ws reg tv w w1.heap.size sig (.slice none 0 0) [] (w1.alloc (.cells #[.int .i64 sig, .slice none 0 0] 49)) := by
  have hs := hk.size
  rw [World.size_alloc] at hs
  exact ⟨h.on (alloc_below _ _), (((Kept.refl [b] w).alloc _).trans hk).alloc _, alloc_old (hk.heap (alloc_new _ _) (fun e => by have := List.mem_singleton.1 e; omega)) _, alloc_new _ _, ⟨World.ownsRow_nil _ _ _ _, by simp⟩, hb, hW, by omega⟩
/-- a block appended -/
theorem FunS.grow {bx : Nat} {sig : Int} {vb v5 : Value} {bs : List Br} {w4 w5 : World} {y : Br} (h : FunS W b L ws reg tv w bx sig vb bs w4) (hy : OwnIns w.heap.size w4 y.vi y.rows) (h5 : w5.ownsRow w.heap.size 54 5 v5 (bs.length + 1) (rowOf brV bs ++ rowOf brV [y])) (hg : w4.grownBy w5 vb.ownBlock) :
    w5.heap[bx]? = some (.cells #[.int .i64 sig, vb] 49 (0, 0)) ∧ FunS W b L ws reg tv w bx sig v5 (bs ++ [y]) (w5.setCell ⟨bx, 1, none⟩ v5) := by
  have g1 := ShTB.blks_step h.own hy h5 hg
  have hr5 := Rdr_grown h.rdr h.own.1 h.lo (by decide) hg
  have hk5 := Kept_grown h.kept h.own.1 (Nat.le_refl _) hg
  have hs : Kept [bx] w5 (w5.setCell ⟨bx, 1, none⟩ v5) := (Kept.refl _ w5).set (.inl (by simp)) v5
  have h1 := h.nb; have h2 := h.lo; have h3 := h.lt
  have hne : ∀ n cs, w4.heap[n]? = some (.cells cs 49 (0, 0)) → vb.ownBlock ≠ some n := fun n cs hn e => by
    obtain ⟨cs2, fr2, h3⟩ := own_typed h.own.1 _ e
    rw [hn] at h3
    simp at h3
  have hres : w5.heap[w.heap.size]? = _ := (hg.block _ (Array.getElem?_eq_some_iff.1 h.res).1 (fun e => hne _ _ h.res e.symm)).trans h.res
  have hbox : w5.heap[bx]? = _ := (hg.block _ (Array.getElem?_eq_some_iff.1 h.box).1 (fun e => hne _ _ h.box e.symm)).trans h.box
  exact ⟨hbox, ⟨Rdr_one hr5 hs (by omega) (by omega), Kept_new hk5 hs (by omega), hs.heap hres (by simp; omega), (ShTB.set_heap' (i := 1) v5 hbox).trans (by simp), g1.other (ShTB.grown_set w5 bx 1 v5) (ShTB.typed_at hbox) (by decide) (by decide) (by decide), h1, h2, h3⟩⟩
/-- a function of a line's words behind func, and of lines -/
def funcC (ts : List Ty) (ws : Ln) (L : List Ln) : Option (Fx × Nat) := match markC 116 ws with
  | some (sig, []) => funcP ts sig L
  | _ => none
/-- a function, or none -/
def FuncO (W : World) (b : Nat) (L : List Ln) (tv : Value) (o : Option (Fx × Nat)) (w : World) (e : Ending) (w' : World) : Prop := match o with
  | none => Out b w e w'
  | some (x, n) => ∃ vb bs reg ws', e = .returned (fxV x vb) ∧ OwnBlks w.heap.size w' vb bs ∧ bs.map Br.bx = x.blocks ∧ Rdr W b (L.drop n) ws' reg tv w' ∧ Kept [b] w w'
/-- of its blocks -/
def FuncB (W : World) (b : Nat) (L : List Ln) (sig : Int) (tv : Value) (o : Option (List Bx × Nat)) (w : World) (e : Ending) (w' : World) : Prop := match o with
  | none => Out b w e w'
  | some (bs2, n) => ∃ vb bs reg ws', e = .returned (fxV ⟨sig, bs2⟩ vb) ∧ OwnBlks w.heap.size w' vb bs ∧ bs.map Br.bx = bs2 ∧ Rdr W b (L.drop n) ws' reg tv w' ∧ Kept [b] w w'
theorem funcB_O {sig : Int} {o : Option (List Bx × Nat)} {e : Ending} {w' : World} (h : FuncB W b L sig tv o w e w') : FuncO W b L tv (o.map fun r => (⟨sig, r.1⟩, r.2)) w e w' := by
  cases o with
  | none => exact h
  | some r => exact h

set_option maxRecDepth 100000 in
set_option maxHeartbeats 8000000 in
theorem func_no1 (h : Rdr W b L ws reg tv w) (hm : markC 116 ws = none) : Calls Tryz.prog 75 #[.pointer (some ⟨b, 0, none⟩)] w (Out b w) := by
  have HC := hid (mark_no (c := 116) (h.on (alloc_below w (.cells #[.int .i64 0, .slice none 0 0] 49))) hm)
  rw [show (((116 : UInt8).toNat : Nat) : Int) = 116 from rfl] at HC
  unfold Out at HC
  clear h hm
  go_enter Tryz.func75, Tryz.ntmps75
  go_wp2_with fail
  refine HC.out.mono ?_
  rintro e w1 ⟨rfl, hk⟩
  have HK := hid (((Kept.refl [b] w).alloc (.cells #[.int .i64 0, .slice none 0 0] 49)).trans hk)
  clear hk HC
  go_wp2
  exact ⟨rfl, rfl, HK.out⟩
set_option maxRecDepth 100000 in
set_option maxHeartbeats 8000000 in
theorem func_no2 {sig : Int} {m : Ln} (h : Rdr W b L ws reg tv w) (hm : markC 116 ws = some (sig, m)) (hne : m ≠ []) : Calls Tryz.prog 75 #[.pointer (some ⟨b, 0, none⟩)] w (Out b w) := by
  have HNE := hid hne
  clear hne
  have hlt := h.lt
  have hWs := h.be.size
  have HC := hid (mark_yes (c := 116) (h.on (alloc_below w (.cells #[.int .i64 0, .slice none 0 0] 49))) hm)
  rw [show (((116 : UInt8).toNat : Nat) : Int) = 116 from rfl] at HC
  unfold Goes at HC
  clear h hm
  go_enter Tryz.func75, Tryz.ntmps75
  go_wp2_with fail
  refine HC.out.mono ?_
  rintro e w1 ⟨rfl, hr, hk⟩
  have hi := FunS.start (sig := sig) hr hlt hWs hk
  obtain ⟨w2, hw2⟩ : ∃ X, X = w1.alloc (.cells #[.int .i64 sig, .slice none 0 0] 49) := ⟨_, rfl⟩
  have HW2 := hid hw2
  rw [← hw2] at hi
  have HI0 := hid hi
  clear hi hr hk hw2 HC
  go_wp2_with fail
  rw [← HW2.out]
  clear HW2
  refine (over_no HI0.out.rdr HNE.out).mono ?_
  rintro e w3 ⟨rfl, hk⟩
  have HK := hid (HI0.out.kept.trans hk)
  clear hk
  go_wp2
  exact ⟨rfl, rfl, HK.out⟩
set_option maxRecDepth 100000 in
set_option maxHeartbeats 8000000 in
theorem func_in {sig : Int} {ts : List Ty} (h : Rdr W b L ws reg tv w) (htab : ShA.Tab W) (hto : TabO W) (hts : ∀ w2, Kept [b] w w2 → TysAt w2 tv ts) (hpt : ∀ t ∈ ts, t.parts.length ≤ 20000) (hm : markC 116 ws = some (sig, [])) (hin : (sig.toNat < ts.length)) : Calls Tryz.prog 75 #[.pointer (some ⟨b, 0, none⟩)] w (FuncO W b L tv ((blocksP L (regOf ts sig)).map fun r => (⟨sig, r.1⟩, r.2)) w) := by
  have HTAB := hid htab
  have HTO := hid hto
  have HTS := hid hts
  have HLL := hid h.fl.1
  obtain ⟨sn, rfl⟩ : ∃ n : Nat, sig = n := ⟨sig.toNat, by have := mark_range hm; omega⟩
  have hin : sn < ts.length := by simpa using hin
  have HIN := hid hin
  have hrg : regOf ts (sn : Int) = ((ts[sn].parts.length : Nat) : Int) := by
    unfold regOf
    rw [Int.toNat_natCast]
    simp only [List.getElem?_eq_getElem hin]
    rfl
  have HREG : Hid (0 ≤ ((ts[sn].parts.length : Nat) : Int) ∧ ((ts[sn].parts.length : Nat) : Int) ≤ 20000) := by
    have := hpt _ (List.getElem_mem hin)
    show _ ∧ _
    omega
  rw [hrg]
  obtain ⟨oo, hoo⟩ : ∃ o, o = blocksP L ((ts[sn].parts.length : Nat) : Int) := ⟨_, rfl⟩
  have HOO := hid hoo
  rw [← hoo]
  clear hoo
  refine Calls.mono (R := FuncB W b L sn tv oo w) ?_ (fun e w' hh => funcB_O hh)
  clear hrg hpt htab hto hts
  obtain ⟨sig, hsig⟩ : ∃ s : Int, s = (sn : Int) := ⟨_, rfl⟩
  rw [← hsig] at hm ⊢
  have HSIG := hid hsig
  clear hsig hin
  have hlt := h.lt
  have hWs := h.be.size
  have HC := hid (mark_yes (c := 116) (h.on (alloc_below w (.cells #[.int .i64 0, .slice none 0 0] 49))) hm)
  rw [show (((116 : UInt8).toNat : Nat) : Int) = 116 from rfl] at HC
  unfold Goes at HC
  clear h hm
  go_enter Tryz.func75, Tryz.ntmps75
  go_wp2_with fail
  refine HC.out.mono ?_
  rintro e w1 ⟨rfl, hr, hk⟩
  have hi := FunS.start (sig := sig) hr hlt hWs hk
  obtain ⟨w2, hw2⟩ : ∃ X, X = w1.alloc (.cells #[.int .i64 sig, .slice none 0 0] 49) := ⟨_, rfl⟩
  have HW2 := hid hw2
  rw [← hw2] at hi
  have HI0 := hid hi
  clear hi hr hk hw2 HC
  go_wp2_with fail
  rw [← HW2.out]
  clear HW2
  refine (over_yes HI0.out.rdr).mono ?_
  rintro e w3 ⟨rfl, hr, hk⟩
  have hi := HI0.out.go hr hk
  obtain ⟨_, _, _, _, _, _, c2, _, hfz, _⟩ := hi.rdr.facts
  have fz2 := hfz 2
  obtain ⟨X3, hX3⟩ : ∃ X, X = w3.setCell ⟨b, 2, none⟩ (.int .i64 0) := ⟨_, rfl⟩
  have HX3 := hid hX3
  have hi3 : FunS W b L [] 0 tv w w1.heap.size sig (.slice none 0 0) [] X3 := by rw [hX3]; exact hi.regs 0
  clear hi hr hk hX3 hfz HI0
  go_upto_region 4 with fail
  rw [← HX3.out]
  clear c2 fz2 HX3
  have htt := HTS.out X3 hi3.kept
  obtain ⟨_, _, _, _, _, _, c2, c3, hfz, _⟩ := hi3.rdr.facts
  have fz2 := hfz 2
  have a0 := cells_of hi3.box 0 _ rfl
  rw [HSIG.out] at a0
  obtain ⟨ta, tc, htv⟩ := htt.slice
  rw [htv] at c3 htt
  have HI3 := hid hi3
  obtain ⟨tb, off, rfl, hltb, pv, d0, d1, d2, d3, hpp⟩ := htt.at sn HIN.out
  obtain ⟨pa, pc, hpv, _⟩ := ints_slice hpp
  subst hpv
  have hlt2 : (sn : Int) < ts.length := by have := HIN.out; omega
  have hlt3 := HIN.out
  have HDI2 := hid (hi3.regs (ts[sn].parts.length : Nat)).draw
  clear hi3 htt hfz hpp d0 d1 d2
  clear htv
  generalize ts[sn].parts.length = pl at *
  generalize ts.length = tl at *
  go_region
  go_wp2_with fail
  go_region
  go_wp2_with fail
  clear c2 c3 fz2 a0 hlt2 hlt3 d3
  obtain ⟨X5, hX5⟩ : ∃ X, X = (X3.setCell ⟨b, 2, none⟩ (.int .i64 (pl : Nat))).drew.drew := ⟨_, rfl⟩
  have HI5 := hid HDI2.out.draw
  rw [← hX5] at HI5 ⊢
  clear hX5 HDI2
  have HP0 : Hid (oo = preF (([] : List Br).map Br.bx) 0 (blocksP (L.drop 0) ((pl : Nat) : Int))) := by
    show _ = _
    rw [HOO.out, List.map_nil, preF_nil, List.drop_zero]
  have HRG0 : Hid (0 ≤ ((pl : Nat) : Int) ∧ ((pl : Nat) : Int) + (L.drop 0).length ≤ 1000000) := by
    have h1 := HREG.out
    have h2 := HLL.out
    show _ ∧ _
    rw [List.drop_zero]
    omega
  go_loopg [] (L.length + 1) (fun gk wr => ∃ (k : Nat) (ws2 : Ln) (rk : Int) (vb : Value) (bs : List Br), k + gk = L.length + 1 ∧ k ≤ L.length ∧ bs.length ≤ k ∧ oo = preF (bs.map Br.bx) k (blocksP (L.drop k) rk) ∧ (0 ≤ rk ∧ rk + (L.drop k).length ≤ 1000000) ∧ FunS W b (L.drop k) ws2 rk tv w w1.heap.size sig vb bs wr)
  case atStart => exact ⟨0, [], _, _, [], by omega, by omega, by simp, HP0.out, HRG0.out, by rw [List.drop_zero]; exact HI5.out⟩
  case round =>
    obtain ⟨k, ws2, rk, vb, bs, hk, hkl, hbl, hp, hrg, hs⟩ := hrel
    have HK := hid hk
    have HKL := hid hkl
    have HBL := hid hbl
    have HP := hid hp
    have HRG := hid hrg
    have HS := hid hs
    clear hk hkl hbl hp hrg HP0 HRG0 HI5 HREG HOO
    by_cases he : ∃ l M, L.drop k = l :: M ∧ w0 l = [98, 108, 111, 99, 107]
    rotate_left
    · have hw : ∀ l M, L.drop k = l :: M → w0 l ≠ un ⟨#[98, 108, 111, 99, 107]⟩ := fun l M hd hx => he ⟨l, M, hd, hx⟩
      have HC := hid (begins_off ⟨#[98, 108, 111, 99, 107]⟩ hs.rdr hw)
      unfold Goes at HC
      have HN : Hid (oo = some (bs.map Br.bx, k)) := by
        show _ = _
        rw [HP.out]
        cases hd : L.drop k with
        | nil => rw [blocks_nil]; simp [preF]
        | cons l M => rw [blocks_cons, if_neg (hw l M hd)]; simp [preF]
      clear he hw hs
      go_wp2_with fail
      refine HC.out.mono ?_
      rintro e w3 ⟨rfl, hr, hk⟩
      have hi := HS.out.go hr hk
      have hbx := hi.box
      have hn := hi.res
      have a0 := cells_of hbx 0 _ rfl; have a1 := cells_of hbx 1 _ rfl
      have b0 := cells_of hn 0 _ rfl; have b1 := cells_of hn 1 _ rfl
      have hq := (ShTB.cells_heap hn).2
      have q0 := hq 0; have q1 := hq 1
      obtain ⟨X6, hX6, hne6, hk6, hb6⟩ := set2_world w3 w.heap.size 49 (.int .i64 0) (.slice none 0 0) (.int .i64 sig) vb hn
      have HX6 := hid hX6
      have hone := kept_one hne6 (hb6 0 w3 (Below.refl _ _) (Nat.zero_le _))
      have HR6 := hid (Rdr_one hi.rdr hone hi.lo (by have := hi.nb; omega))
      have HK6 := hid (Kept_new hi.kept hone (Nat.le_refl _))
      have HO6 := hid (hi.own.other hone.grown (ShTB.typed_at hn) (by decide) (by decide) (by decide))
      have x0 := cells_of hk6 0 _ rfl; have x1 := cells_of hk6 1 _ rfl
      obtain ⟨i1, i2, hvb⟩ : ∃ a c, vb = .slice a bs.length c := own_form hi.own.1
      subst hvb
      clear hbx hn hq hX6 hne6 hk6 hb6 hone hr hk hi HC HS
      go_wp2
      (try simp only [Exit.inBlock, Exit.then])
      rw [← HX6.out]
      refine bodyPost_ret (by simp [results, Tryz.results75, go_sem, x0, x1]; try rfl) rfl ?_
      show FuncB _ _ _ _ _ _ _ _ _
      rw [HN.out]
      exact ⟨_, bs, _, _, rfl, HO6.out, rfl, HR6.out, HK6.out⟩
    obtain ⟨l, M, hd, hw⟩ := he
    have hlM : l.length + 0 = l.length := rfl
    rw [hd] at hs
    have h1 := hs.rdr.fl.head.1
    have HC := hid (begins_on ⟨#[98, 108, 111, 99, 107]⟩ hs.rdr hw)
    unfold Goes at HC
    have HD0 := hid hd
    have HW0 := hid hw
    clear hlM
    go_wp2_with fail
    refine HC.out.mono ?_
    rintro e w3 ⟨rfl, hr, hk⟩
    have HI6 := hid (hs.go hr hk)
    clear hr hk HC hs HS hd hw
    by_cases hl1 : l.length = 1
    rotate_left
    · have hne : l.drop 1 ≠ [] := fun e => hl1 ((one_line h1).1 e)
      have HNE := hid hne
      have HN : Hid (oo = none) := by show _ = _; rw [HP.out, HD0.out, blocks_cons, if_pos HW0.out, if_neg hl1]; rfl
      clear hne hl1 h1
      go_wp2_with fail
      refine (over_no HI6.out.rdr HNE.out).mono ?_
      rintro e w4 ⟨rfl, hk⟩
      have HK9 := hid (HI6.out.kept.trans hk)
      clear hk
      go_wp2
      refine ⟨rfl, ?_⟩
      show FuncB _ _ _ _ _ _ _ _ _
      rw [HN.out]
      exact ⟨rfl, HK9.out⟩
    have HL1 := hid hl1
    have hrd6 := HI6.out.rdr
    rw [(one_line h1).2 hl1] at hrd6
    have HRD6 := hid hrd6
    clear hl1 h1 hrd6
    go_wp2_with fail
    refine (over_yes HRD6.out).mono ?_
    rintro e w4 ⟨rfl, hr, hk⟩
    have HI7 := hid (HI6.out.go hr hk)
    clear hr hk HRD6 HI6
    obtain ⟨i1, i2, hvb⟩ : ∃ a c, vb = .slice a bs.length c := own_form HI7.out.own.1
    subst hvb
    have HDD := hid HI7.out.draw
    have HV0 : Hid (w4.drew.cell? ⟨w1.heap.size, 1, none⟩ = some (.slice i1 bs.length i2)) := cells_of HDD.out.box 1 _ rfl
    have HLM : Hid (k < L.length ∧ M.length + 1 = L.length - k) := by
      have := congrArg List.length HD0.out
      rw [List.length_drop] at this
      simp only [List.length_cons] at this
      show _ ∧ _
      have := HKL.out
      omega
    have HRGM : Hid (0 ≤ rk ∧ rk + M.length ≤ 1000000000) := by
      have h1 := HRG.out
      have h2 := HLM.out
      rw [List.length_drop] at h1
      show _ ∧ _
      omega
    have hbc := block_calls HDD.out.rdr HTAB.out HTO.out HRGM.out
    cases hx : blockP M rk with
    | none =>
      rw [hx] at hbc
      have HC : Hid (Calls Tryz.prog 135 _ _ (Out b w4.drew)) := hbc
      unfold Out at HC
      have HN : Hid (oo = none) := by show _ = _; rw [HP.out, HD0.out, blocks_cons, if_pos HW0.out, if_pos HL1.out, hx]; rfl
      clear hbc hx
      go_upto_region 8 with fail
      refine wp_region_Z (S := (fun w' => w'.cell? ⟨w1.heap.size, 1, none⟩ = some (.slice i1 bs.length i2))) (Z := [7]) (by kernel_rfl) ?_ (fun hHeld => ?_)
      · (try dsimp only)
        exact HV0.out
      refine zP 0 rfl ?_
      refine zT 1 rfl ?_
      refine zP 2 rfl ?_
      refine zC 3 rfl (fun K hK => ?_)
      go_simp
      (go_at_call 135)
      refine HC.out.mono ?_
      rintro e w9 ⟨rfl, hk⟩
      have HK9 := hid (HDD.out.kept.trans hk)
      clear hk
      refine ⟨rfl, ?_⟩
      show FuncB _ _ _ _ _ _ _ _ _
      rw [HN.out]
      exact ⟨rfl, HK9.out⟩
    | some xn =>
      obtain ⟨x, n⟩ := xn
      rw [hx] at hbc
      have HC : Hid (Calls Tryz.prog 135 _ _ (BlockO W b M rk tv (some (x, n)) w4.drew)) := hbc
      have HBLN := hid (block_len hx)
      have HP2 : Hid (oo = preF (bs.map Br.bx ++ [x]) (k + (1 + n)) (blocksP (L.drop (k + (1 + n))) (rk + x.ins.length))) := by
        show _ = _
        rw [HP.out, HD0.out, blocks_step HW0.out HL1.out hx, preF_pre]
        congr 2
        have := List.drop_drop (i := 1 + n) (j := k) (l := L)
        rw [HD0.out] at this
        rw [← this, Nat.add_comm 1 n, List.drop_succ_cons]
      have HDM : Hid (L.drop (k + (1 + n)) = M.drop n) := by
        show List.drop _ _ = _
        have := List.drop_drop (i := 1 + n) (j := k) (l := L)
        rw [HD0.out] at this
        rw [← this, Nat.add_comm 1 n, List.drop_succ_cons]
      clear hbc hx
      go_upto_region 8 with fail
      refine wp_region_noPanic ?_
      refine wp_region_Z (S := (fun w' => w'.cell? ⟨w1.heap.size, 1, none⟩ = some (.slice i1 bs.length i2))) (Z := [7]) (by kernel_rfl) ?_ (fun hHeld => ?_)
      · (try dsimp only)
        exact HV0.out
      refine zP 0 rfl ?_
      refine zT 1 rfl ?_
      refine zP 2 rfl ?_
      refine zC 3 rfl (fun K hK => ?_)
      go_simp
      (go_at_call 135; (with_reducible refine HC.out.mono ?_); rintro e w5 ⟨vi, rows, rfl, hoy, hrx, hr1, hk1⟩; obtain ⟨ja, jc, rfl⟩ : ∃ a c, vi = .slice a rows.length c := own_form hoy.1; have HS4 := hid (HDD.out.go hr1 hk1); have HOY := hid (show OwnIns w.heap.size w5 _ rows from hoy.base HDD.out.kept.size); have HRX := hid hrx; have HV1 : Hid (w5.cell? ⟨w1.heap.size, 1, none⟩ = some (.slice i1 bs.length i2)) := cells_of HS4.out.box 1 _ rfl; clear hr1 hk1 hoy hrx HC)
      refine hK.out _ _ ?_ (fun hHeld => ?_)
      · (try dsimp only)
        exact HV1.out
      clear hK K
      refine zC 4 rfl (fun K hK => ?_)
      go_simp
      refine hK.out _ _ ?_ (fun hHeld => ?_)
      · (try dsimp only)
        exact keep_below (alloc_below _ _) HV1.out
      clear hK K
      refine zC 5 rfl (fun K hK => ?_)
      rw [if_pos (by rfl)]
      have hb5 := alloc_below w5 (.cells #[.slice ja rows.length jc, .int .u8 x.en.kind, .int .i64 x.en.a, .int .i64 x.en.to, .int .i64 x.en.els] 54)
      have HS5 := hid (HS4.out.on hb5)
      have HOY5 := hid (HOY.out.below hb5)
      have hsz : w.heap.size ≤ (w5.alloc (.cells #[.slice ja rows.length jc, .int .u8 x.en.kind, .int .i64 x.en.a, .int .i64 x.en.to, .int .i64 x.en.els] 54)).heap.size := HS5.out.kept.size
      refine wp_append_row brW (by decide) infoBlk Tryz.underlying47 zeroBlk (.tmp 40) (.tmp 43) rfl w.heap.size (.slice i1 bs.length i2) rfl bs.length (rowOf brV bs) HS5.out.own.1 w5.heap.size 0 1 1 [(⟨x.en, .slice ja rows.length jc, rows⟩ : Br)] rfl rfl (fun z hz => by rw [List.mem_singleton.1 hz]; exact oneBr _ ⟨_, _, _, rfl⟩) (row_new _ _ _ _ brV rfl) (by have := HBL.out; have := HLM.out; have := HLL.out; unfold maxLen; simp; omega) (by have := HBL.out; have := HLM.out; have := HLL.out; simp; omega) hsz ?_
      intro v6 w6 hown6 hgr6
      obtain ⟨g1, g2⟩ := HS5.out.grow (y := (⟨x.en, .slice ja rows.length jc, rows⟩ : Br)) HOY5.out hown6 hgr6
      obtain ⟨p5, c5, h50⟩ := own_form hown6
      subst h50
      have HS6 := hid g2
      have HB6 := hid g1
      have HV2 : Hid (w6.cell? ⟨w1.heap.size, 1, none⟩ = some (.slice i1 bs.length i2)) := cells_of g1 1 _ rfl
      clear hown6 hgr6 g1 g2 hsz hb5
      refine hK.out _ _ ?_ (fun hHeld => ?_)
      · (try dsimp only)
        exact HV2.out
      clear hK K
      refine zP 6 rfl ?_
      refine zL 7 rfl (fun K hK => ?_)
      have zz := (ShTB.cells_heap HB6.out).2 1
      have yy := HV2.out
      go_simp
      refine hK.out _ _ ?_
      clear hK K
      refine wpAnyZ_done (by kernel_rfl) ?_ _
      refine NoPanic.normal ?_
      clear HV0 HV1 HV2 HB6 HOY HOY5 HS4 HS5 HDD HI7
      go_wp2
      go_roundg (gk - (1 + n))
      case measure => have := HK.out; have := HLM.out; have := HBLN.out; omega
      case rel =>
        have hbx : (⟨rows.map Ir.x, x.en⟩ : Bx) = x := by rw [HRX.out]
        refine ⟨k + (1 + n), [], _, _, bs ++ [(⟨x.en, .slice ja rows.length jc, rows⟩ : Br)], by have := HK.out; have := HLM.out; have := HBLN.out; omega, by have := HLM.out; have := HBLN.out; omega, by have := HBL.out; simp; omega, ?_, ?_, by rw [HDM.out]; exact HS6.out⟩
        · rw [HP2.out, List.map_append]
          show _ = preF (_ ++ [(⟨rows.map Ir.x, x.en⟩ : Bx)]) _ _
          rw [hbx]
        · have h1 := HRG.out
          have h2 := HLM.out
          have h3 := HBLN.out
          rw [HDM.out, List.length_drop]
          rw [List.length_drop] at h1
          omega
set_option maxRecDepth 100000 in
set_option maxHeartbeats 8000000 in
theorem func_out {sig : Int} {ts : List Ty} (h : Rdr W b L ws reg tv w) (htab : ShA.Tab W) (hto : TabO W) (hts : ∀ w2, Kept [b] w w2 → TysAt w2 tv ts) (hm : markC 116 ws = some (sig, [])) (hin : ¬ sig.toNat < ts.length) : Calls Tryz.prog 75 #[.pointer (some ⟨b, 0, none⟩)] w (FuncO W b L tv ((blocksP L (regOf ts sig)).map fun r => (⟨sig, r.1⟩, r.2)) w) := by
  have HTAB := hid htab
  have HTO := hid hto
  have HTS := hid hts
  have HLL := hid h.fl.1
  obtain ⟨sn, rfl⟩ : ∃ n : Nat, sig = n := ⟨sig.toNat, by have := mark_range hm; omega⟩
  have hin : ¬ sn < ts.length := by simpa using hin
  have HIN := hid hin
  have hrg : regOf ts (sn : Int) = 0 := by
    unfold regOf
    rw [Int.toNat_natCast]
    simp only [List.getElem?_eq_none (Nat.le_of_not_lt hin)]
  have HREG : Hid (0 ≤ (0 : Int) ∧ (0 : Int) ≤ 20000) := by
    show _ ∧ _
    omega
  rw [hrg]
  obtain ⟨oo, hoo⟩ : ∃ o, o = blocksP L 0 := ⟨_, rfl⟩
  have HOO := hid hoo
  rw [← hoo]
  clear hoo
  refine Calls.mono (R := FuncB W b L sn tv oo w) ?_ (fun e w' hh => funcB_O hh)
  clear hrg htab hto hts
  obtain ⟨sig, hsig⟩ : ∃ s : Int, s = (sn : Int) := ⟨_, rfl⟩
  rw [← hsig] at hm ⊢
  have HSIG := hid hsig
  clear hsig hin
  have hlt := h.lt
  have hWs := h.be.size
  have HC := hid (mark_yes (c := 116) (h.on (alloc_below w (.cells #[.int .i64 0, .slice none 0 0] 49))) hm)
  rw [show (((116 : UInt8).toNat : Nat) : Int) = 116 from rfl] at HC
  unfold Goes at HC
  clear h hm
  go_enter Tryz.func75, Tryz.ntmps75
  go_wp2_with fail
  refine HC.out.mono ?_
  rintro e w1 ⟨rfl, hr, hk⟩
  have hi := FunS.start (sig := sig) hr hlt hWs hk
  obtain ⟨w2, hw2⟩ : ∃ X, X = w1.alloc (.cells #[.int .i64 sig, .slice none 0 0] 49) := ⟨_, rfl⟩
  have HW2 := hid hw2
  rw [← hw2] at hi
  have HI0 := hid hi
  clear hi hr hk hw2 HC
  go_wp2_with fail
  rw [← HW2.out]
  clear HW2
  refine (over_yes HI0.out.rdr).mono ?_
  rintro e w3 ⟨rfl, hr, hk⟩
  have hi := HI0.out.go hr hk
  obtain ⟨_, _, _, _, _, _, c2, _, hfz, _⟩ := hi.rdr.facts
  have fz2 := hfz 2
  obtain ⟨X3, hX3⟩ : ∃ X, X = w3.setCell ⟨b, 2, none⟩ (.int .i64 0) := ⟨_, rfl⟩
  have HX3 := hid hX3
  have hi3 : FunS W b L [] 0 tv w w1.heap.size sig (.slice none 0 0) [] X3 := by rw [hX3]; exact hi.regs 0
  clear hi hr hk hX3 hfz HI0
  go_upto_region 4 with fail
  rw [← HX3.out]
  clear c2 fz2 HX3
  have htt := HTS.out X3 hi3.kept
  obtain ⟨_, _, _, _, _, _, c2, c3, hfz, _⟩ := hi3.rdr.facts
  have fz2 := hfz 2
  have a0 := cells_of hi3.box 0 _ rfl
  rw [HSIG.out] at a0
  obtain ⟨ta, tc, htv⟩ := htt.slice
  rw [htv] at c3 htt
  have HI3 := hid hi3
  have hlt2 : ¬ (sn : Int) < ts.length := by have := HIN.out; omega
  have HI5 := hid hi3.draw
  clear hi3 htt hfz htv
  generalize ts.length = tl at *
  go_region
  go_wp2_with fail
  clear c2 c3 fz2 a0 hlt2
  obtain ⟨X5, hX5⟩ : ∃ X, X = X3.drew := ⟨_, rfl⟩
  rw [← hX5] at HI5 ⊢
  clear hX5
  have HP0 : Hid (oo = preF (([] : List Br).map Br.bx) 0 (blocksP (L.drop 0) (0 : Int))) := by
    show _ = _
    rw [HOO.out, List.map_nil, preF_nil, List.drop_zero]
  have HRG0 : Hid (0 ≤ (0 : Int) ∧ (0 : Int) + (L.drop 0).length ≤ 1000000) := by
    have h1 := HREG.out
    have h2 := HLL.out
    show _ ∧ _
    rw [List.drop_zero]
    omega
  go_loopg [] (L.length + 1) (fun gk wr => ∃ (k : Nat) (ws2 : Ln) (rk : Int) (vb : Value) (bs : List Br), k + gk = L.length + 1 ∧ k ≤ L.length ∧ bs.length ≤ k ∧ oo = preF (bs.map Br.bx) k (blocksP (L.drop k) rk) ∧ (0 ≤ rk ∧ rk + (L.drop k).length ≤ 1000000) ∧ FunS W b (L.drop k) ws2 rk tv w w1.heap.size sig vb bs wr)
  case atStart => exact ⟨0, [], _, _, [], by omega, by omega, by simp, HP0.out, HRG0.out, by rw [List.drop_zero]; exact HI5.out⟩
  case round =>
    obtain ⟨k, ws2, rk, vb, bs, hk, hkl, hbl, hp, hrg, hs⟩ := hrel
    have HK := hid hk
    have HKL := hid hkl
    have HBL := hid hbl
    have HP := hid hp
    have HRG := hid hrg
    have HS := hid hs
    clear hk hkl hbl hp hrg HP0 HRG0 HI5 HREG HOO
    by_cases he : ∃ l M, L.drop k = l :: M ∧ w0 l = [98, 108, 111, 99, 107]
    rotate_left
    · have hw : ∀ l M, L.drop k = l :: M → w0 l ≠ un ⟨#[98, 108, 111, 99, 107]⟩ := fun l M hd hx => he ⟨l, M, hd, hx⟩
      have HC := hid (begins_off ⟨#[98, 108, 111, 99, 107]⟩ hs.rdr hw)
      unfold Goes at HC
      have HN : Hid (oo = some (bs.map Br.bx, k)) := by
        show _ = _
        rw [HP.out]
        cases hd : L.drop k with
        | nil => rw [blocks_nil]; simp [preF]
        | cons l M => rw [blocks_cons, if_neg (hw l M hd)]; simp [preF]
      clear he hw hs
      go_wp2_with fail
      refine HC.out.mono ?_
      rintro e w3 ⟨rfl, hr, hk⟩
      have hi := HS.out.go hr hk
      have hbx := hi.box
      have hn := hi.res
      have a0 := cells_of hbx 0 _ rfl; have a1 := cells_of hbx 1 _ rfl
      have b0 := cells_of hn 0 _ rfl; have b1 := cells_of hn 1 _ rfl
      have hq := (ShTB.cells_heap hn).2
      have q0 := hq 0; have q1 := hq 1
      obtain ⟨X6, hX6, hne6, hk6, hb6⟩ := set2_world w3 w.heap.size 49 (.int .i64 0) (.slice none 0 0) (.int .i64 sig) vb hn
      have HX6 := hid hX6
      have hone := kept_one hne6 (hb6 0 w3 (Below.refl _ _) (Nat.zero_le _))
      have HR6 := hid (Rdr_one hi.rdr hone hi.lo (by have := hi.nb; omega))
      have HK6 := hid (Kept_new hi.kept hone (Nat.le_refl _))
      have HO6 := hid (hi.own.other hone.grown (ShTB.typed_at hn) (by decide) (by decide) (by decide))
      have x0 := cells_of hk6 0 _ rfl; have x1 := cells_of hk6 1 _ rfl
      obtain ⟨i1, i2, hvb⟩ : ∃ a c, vb = .slice a bs.length c := own_form hi.own.1
      subst hvb
      clear hbx hn hq hX6 hne6 hk6 hb6 hone hr hk hi HC HS
      go_wp2
      (try simp only [Exit.inBlock, Exit.then])
      rw [← HX6.out]
      refine bodyPost_ret (by simp [results, Tryz.results75, go_sem, x0, x1]; try rfl) rfl ?_
      show FuncB _ _ _ _ _ _ _ _ _
      rw [HN.out]
      exact ⟨_, bs, _, _, rfl, HO6.out, rfl, HR6.out, HK6.out⟩
    obtain ⟨l, M, hd, hw⟩ := he
    have hlM : l.length + 0 = l.length := rfl
    rw [hd] at hs
    have h1 := hs.rdr.fl.head.1
    have HC := hid (begins_on ⟨#[98, 108, 111, 99, 107]⟩ hs.rdr hw)
    unfold Goes at HC
    have HD0 := hid hd
    have HW0 := hid hw
    clear hlM
    go_wp2_with fail
    refine HC.out.mono ?_
    rintro e w3 ⟨rfl, hr, hk⟩
    have HI6 := hid (hs.go hr hk)
    clear hr hk HC hs HS hd hw
    by_cases hl1 : l.length = 1
    rotate_left
    · have hne : l.drop 1 ≠ [] := fun e => hl1 ((one_line h1).1 e)
      have HNE := hid hne
      have HN : Hid (oo = none) := by show _ = _; rw [HP.out, HD0.out, blocks_cons, if_pos HW0.out, if_neg hl1]; rfl
      clear hne hl1 h1
      go_wp2_with fail
      refine (over_no HI6.out.rdr HNE.out).mono ?_
      rintro e w4 ⟨rfl, hk⟩
      have HK9 := hid (HI6.out.kept.trans hk)
      clear hk
      go_wp2
      refine ⟨rfl, ?_⟩
      show FuncB _ _ _ _ _ _ _ _ _
      rw [HN.out]
      exact ⟨rfl, HK9.out⟩
    have HL1 := hid hl1
    have hrd6 := HI6.out.rdr
    rw [(one_line h1).2 hl1] at hrd6
    have HRD6 := hid hrd6
    clear hl1 h1 hrd6
    go_wp2_with fail
    refine (over_yes HRD6.out).mono ?_
    rintro e w4 ⟨rfl, hr, hk⟩
    have HI7 := hid (HI6.out.go hr hk)
    clear hr hk HRD6 HI6
    obtain ⟨i1, i2, hvb⟩ : ∃ a c, vb = .slice a bs.length c := own_form HI7.out.own.1
    subst hvb
    have HDD := hid HI7.out.draw
    have HV0 : Hid (w4.drew.cell? ⟨w1.heap.size, 1, none⟩ = some (.slice i1 bs.length i2)) := cells_of HDD.out.box 1 _ rfl
    have HLM : Hid (k < L.length ∧ M.length + 1 = L.length - k) := by
      have := congrArg List.length HD0.out
      rw [List.length_drop] at this
      simp only [List.length_cons] at this
      show _ ∧ _
      have := HKL.out
      omega
    have HRGM : Hid (0 ≤ rk ∧ rk + M.length ≤ 1000000000) := by
      have h1 := HRG.out
      have h2 := HLM.out
      rw [List.length_drop] at h1
      show _ ∧ _
      omega
    have hbc := block_calls HDD.out.rdr HTAB.out HTO.out HRGM.out
    cases hx : blockP M rk with
    | none =>
      rw [hx] at hbc
      have HC : Hid (Calls Tryz.prog 135 _ _ (Out b w4.drew)) := hbc
      unfold Out at HC
      have HN : Hid (oo = none) := by show _ = _; rw [HP.out, HD0.out, blocks_cons, if_pos HW0.out, if_pos HL1.out, hx]; rfl
      clear hbc hx
      go_upto_region 8 with fail
      refine wp_region_Z (S := (fun w' => w'.cell? ⟨w1.heap.size, 1, none⟩ = some (.slice i1 bs.length i2))) (Z := [7]) (by kernel_rfl) ?_ (fun hHeld => ?_)
      · (try dsimp only)
        exact HV0.out
      refine zP 0 rfl ?_
      refine zT 1 rfl ?_
      refine zP 2 rfl ?_
      refine zC 3 rfl (fun K hK => ?_)
      go_simp
      (go_at_call 135)
      refine HC.out.mono ?_
      rintro e w9 ⟨rfl, hk⟩
      have HK9 := hid (HDD.out.kept.trans hk)
      clear hk
      refine ⟨rfl, ?_⟩
      show FuncB _ _ _ _ _ _ _ _ _
      rw [HN.out]
      exact ⟨rfl, HK9.out⟩
    | some xn =>
      obtain ⟨x, n⟩ := xn
      rw [hx] at hbc
      have HC : Hid (Calls Tryz.prog 135 _ _ (BlockO W b M rk tv (some (x, n)) w4.drew)) := hbc
      have HBLN := hid (block_len hx)
      have HP2 : Hid (oo = preF (bs.map Br.bx ++ [x]) (k + (1 + n)) (blocksP (L.drop (k + (1 + n))) (rk + x.ins.length))) := by
        show _ = _
        rw [HP.out, HD0.out, blocks_step HW0.out HL1.out hx, preF_pre]
        congr 2
        have := List.drop_drop (i := 1 + n) (j := k) (l := L)
        rw [HD0.out] at this
        rw [← this, Nat.add_comm 1 n, List.drop_succ_cons]
      have HDM : Hid (L.drop (k + (1 + n)) = M.drop n) := by
        show List.drop _ _ = _
        have := List.drop_drop (i := 1 + n) (j := k) (l := L)
        rw [HD0.out] at this
        rw [← this, Nat.add_comm 1 n, List.drop_succ_cons]
      clear hbc hx
      go_upto_region 8 with fail
      refine wp_region_noPanic ?_
      refine wp_region_Z (S := (fun w' => w'.cell? ⟨w1.heap.size, 1, none⟩ = some (.slice i1 bs.length i2))) (Z := [7]) (by kernel_rfl) ?_ (fun hHeld => ?_)
      · (try dsimp only)
        exact HV0.out
      refine zP 0 rfl ?_
      refine zT 1 rfl ?_
      refine zP 2 rfl ?_
      refine zC 3 rfl (fun K hK => ?_)
      go_simp
      (go_at_call 135; (with_reducible refine HC.out.mono ?_); rintro e w5 ⟨vi, rows, rfl, hoy, hrx, hr1, hk1⟩; obtain ⟨ja, jc, rfl⟩ : ∃ a c, vi = .slice a rows.length c := own_form hoy.1; have HS4 := hid (HDD.out.go hr1 hk1); have HOY := hid (show OwnIns w.heap.size w5 _ rows from hoy.base HDD.out.kept.size); have HRX := hid hrx; have HV1 : Hid (w5.cell? ⟨w1.heap.size, 1, none⟩ = some (.slice i1 bs.length i2)) := cells_of HS4.out.box 1 _ rfl; clear hr1 hk1 hoy hrx HC)
      refine hK.out _ _ ?_ (fun hHeld => ?_)
      · (try dsimp only)
        exact HV1.out
      clear hK K
      refine zC 4 rfl (fun K hK => ?_)
      go_simp
      refine hK.out _ _ ?_ (fun hHeld => ?_)
      · (try dsimp only)
        exact keep_below (alloc_below _ _) HV1.out
      clear hK K
      refine zC 5 rfl (fun K hK => ?_)
      rw [if_pos (by rfl)]
      have hb5 := alloc_below w5 (.cells #[.slice ja rows.length jc, .int .u8 x.en.kind, .int .i64 x.en.a, .int .i64 x.en.to, .int .i64 x.en.els] 54)
      have HS5 := hid (HS4.out.on hb5)
      have HOY5 := hid (HOY.out.below hb5)
      have hsz : w.heap.size ≤ (w5.alloc (.cells #[.slice ja rows.length jc, .int .u8 x.en.kind, .int .i64 x.en.a, .int .i64 x.en.to, .int .i64 x.en.els] 54)).heap.size := HS5.out.kept.size
      refine wp_append_row brW (by decide) infoBlk Tryz.underlying47 zeroBlk (.tmp 40) (.tmp 43) rfl w.heap.size (.slice i1 bs.length i2) rfl bs.length (rowOf brV bs) HS5.out.own.1 w5.heap.size 0 1 1 [(⟨x.en, .slice ja rows.length jc, rows⟩ : Br)] rfl rfl (fun z hz => by rw [List.mem_singleton.1 hz]; exact oneBr _ ⟨_, _, _, rfl⟩) (row_new _ _ _ _ brV rfl) (by have := HBL.out; have := HLM.out; have := HLL.out; unfold maxLen; simp; omega) (by have := HBL.out; have := HLM.out; have := HLL.out; simp; omega) hsz ?_
      intro v6 w6 hown6 hgr6
      obtain ⟨g1, g2⟩ := HS5.out.grow (y := (⟨x.en, .slice ja rows.length jc, rows⟩ : Br)) HOY5.out hown6 hgr6
      obtain ⟨p5, c5, h50⟩ := own_form hown6
      subst h50
      have HS6 := hid g2
      have HB6 := hid g1
      have HV2 : Hid (w6.cell? ⟨w1.heap.size, 1, none⟩ = some (.slice i1 bs.length i2)) := cells_of g1 1 _ rfl
      clear hown6 hgr6 g1 g2 hsz hb5
      refine hK.out _ _ ?_ (fun hHeld => ?_)
      · (try dsimp only)
        exact HV2.out
      clear hK K
      refine zP 6 rfl ?_
      refine zL 7 rfl (fun K hK => ?_)
      have zz := (ShTB.cells_heap HB6.out).2 1
      have yy := HV2.out
      go_simp
      refine hK.out _ _ ?_
      clear hK K
      refine wpAnyZ_done (by kernel_rfl) ?_ _
      refine NoPanic.normal ?_
      clear HV0 HV1 HV2 HB6 HOY HOY5 HS4 HS5 HDD HI7
      go_wp2
      go_roundg (gk - (1 + n))
      case measure => have := HK.out; have := HLM.out; have := HBLN.out; omega
      case rel =>
        have hbx : (⟨rows.map Ir.x, x.en⟩ : Bx) = x := by rw [HRX.out]
        refine ⟨k + (1 + n), [], _, _, bs ++ [(⟨x.en, .slice ja rows.length jc, rows⟩ : Br)], by have := HK.out; have := HLM.out; have := HBLN.out; omega, by have := HLM.out; have := HBLN.out; omega, by have := HBL.out; simp; omega, ?_, ?_, by rw [HDM.out]; exact HS6.out⟩
        · rw [HP2.out, List.map_append]
          show _ = preF (_ ++ [(⟨rows.map Ir.x, x.en⟩ : Bx)]) _ _
          rw [hbx]
        · have h1 := HRG.out
          have h2 := HLM.out
          have h3 := HBLN.out
          rw [HDM.out, List.length_drop]
          rw [List.length_drop] at h1
          omega
/-- a function, or none -/
theorem func_calls {ts : List Ty} (h : Rdr W b L ws reg tv w) (htab : ShA.Tab W) (hto : TabO W) (hts : ∀ w2, Kept [b] w w2 → TysAt w2 tv ts) (hpt : ∀ t ∈ ts, t.parts.length ≤ 20000) :
    Calls Tryz.prog 75 #[.pointer (some ⟨b, 0, none⟩)] w (FuncO W b L tv (funcC ts ws L) w) := by
  unfold funcC
  cases hm : markC 116 ws with
  | none => exact func_no1 h hm
  | some q =>
    obtain ⟨sig, m⟩ := q
    cases m with
    | cons x m => exact func_no2 h hm (by simp)
    | nil =>
      by_cases hin : sig.toNat < ts.length
      · exact func_in h htab hto hts hpt hm hin
      · exact func_out h htab hto hts hm hin
end Go.Proofs.YtbebficgcemkoaaGreatDoor.RcS
namespace Go.Proofs.YtbebficgcemkoaaGreatDoor.RcV
open Go.RowKit Go.Lib TyM TyP ShM ShP ShB IntO SetP LxM LxJ LxY RwO RdM RdN RdV RdB RdK Aft RgZ RcP RcA RcB RcC RcD RcT
open TyW (Row rowVals rowVals_length)

variable {W : World} {b : Nat} {L : List Ln} {ws : Ln} {reg : Int} {tv : Value} {w : World}

/-- numbers in a block of their own, where blocks of numbers stay -/
theorem parts_keep {B : Nat} {w w' : World} {v : Value} {l : List Int} (h : PartsAt B w v l) (hg : ∀ (g : Nat) (cs : Array Value) (fr : Nat × Nat), w.heap[g]? = some (.cells cs 3 fr) → w'.heap[g]? = w.heap[g]?) : PartsAt B w' v l := by
  obtain ⟨⟨ao, cap, rfl, hl, hm, hz, hc⟩, h2⟩ := h
  refine ⟨⟨ao, cap, rfl, hl, fun h0 => ?_, hz, hc⟩, fun g hgg => ?_⟩
  · obtain ⟨k, off, rfl, hlt, hx⟩ := hm h0
    obtain ⟨_, cs, fr, h3⟩ := h2 k rfl
    have he := hg k cs fr h3
    exact ⟨k, off, rfl, (Array.getElem?_eq_some_iff.1 (he.trans h3)).1, fun i hi => (World.cell?_of_block he).trans (hx i hi)⟩
  · obtain ⟨h3, cs, fr, h4⟩ := h2 g hgg
    exact ⟨h3, cs, fr, (hg g cs fr h4).trans h4⟩
/-- a table of types, its row the call's own -/
def TyOwn (B : Nat) (w : World) (v : Value) (r : List Row) : Prop := w.ownsRow B 77 4 v r.length (rowVals r) ∧ ∀ x ∈ r, PartsAt B w x.2 x.1.parts
theorem TyOwn.go {B : Nat} {v : Value} {r : List Row} {wr w' : World} (h : TyOwn B wr v r) (hr : Rdr W b L ws reg tv wr) (hk : Kept [b] wr w') : TyOwn B w' v r :=
  ⟨owns_go hr h.1 (by decide) hk, fun x hx => parts_keep (h.2 x hx) fun g cs fr hg => hk.block g (Array.getElem?_eq_some_iff.1 hg).1 fun e => by
    obtain ⟨cs2, fr2, h3⟩ := Rdr_typed hr g (by rw [List.mem_singleton.1 e])
    rw [hg] at h3
    simp at h3⟩
theorem TyOwn.on {B : Nat} {v : Value} {r : List Row} {wr w' : World} (h : TyOwn B wr v r) (hk : Below wr.heap.size wr w') : TyOwn B w' v r := ⟨ownsRow_below h.1 hk, fun x hx => (h.2 x hx).below hk⟩
theorem TyOwn.other {B : Nat} {v : Value} {r : List Row} {wr w' : World} {f : TypeId} {row : Option Nat} (h : TyOwn B wr v r) (hg : wr.grownBy w' row) (hr : ∀ g, row = some g → ∃ cs fr, wr.heap[g]? = some (.cells cs f fr)) (h1 : 3 ≠ f) (h2 : 77 ≠ f) : TyOwn B w' v r :=
  ⟨owns_other h.1 hg hr h2, fun x hx => parts_keep (h.2 x hx) fun g cs fr hgg => hg.block g (Array.getElem?_eq_some_iff.1 hgg).1 fun e => by
    obtain ⟨cs2, fr2, h3⟩ := hr g e.symm
    rw [hgg] at h3
    simp at h3
    exact h1 h3.2.1⟩
theorem TyOwn.tys {B : Nat} {v : Value} {r : List Row} {w : World} (h : TyOwn B w v r) (hr : r.length ≤ 100000) : TysAt w v (r.map Prod.fst) := by
  by_cases h0 : 0 < r.length
  · obtain ⟨g, cap, rfl, hg, hlt, hn, hc⟩ := TyW.row_cells h.1 (by rw [rowVals_length]; omega)
    refine ⟨some ⟨g, 0, none⟩, cap, by simp, by simp; omega, fun _ => ⟨g, 0, rfl, hlt, fun i hi => ?_⟩, (fun e => by cases e), by simpa using hn⟩
    have hi' : i < r.length := by simpa using hi
    obtain ⟨e0, e1, e2, e3⟩ := TyW.rowVals_at r i hi'
    rw [List.getElem_map]
    rw [Nat.zero_add]
    exact ⟨r[i].2, hc _ _ e0, hc _ _ e1, hc _ _ e2, hc _ _ e3, (h.2 _ (List.getElem_mem hi')).1⟩
  · obtain rfl : r = [] := List.eq_nil_of_length_eq_zero (by omega)
    rcases h.1.2 with ⟨rfl, _⟩ | ⟨g, cap, cur, rfl, hg, hb, hn, hm, hs, ht⟩
    · exact ⟨none, 0, rfl, by simp, (fun h => by simp at h), (fun _ => rfl), by simp⟩
    · exact ⟨some ⟨g, 0, none⟩, cap, rfl, by simp, (fun h => by simp at h), (fun e => by cases e), by simp⟩
def tyRow (x : Row) : List Value := [.int .u8 x.1.kind, .int .i64 x.1.elem, .int .i64 x.1.many, x.2]
theorem tyW : Wide tyRow 4 := fun _ => rfl
theorem rowVals_of (r : List Row) : rowVals r = rowOf tyRow r := rfl
/-- a type appended -/
theorem TyOwn.grow {B : Nat} {v v5 : Value} {r : List Row} {w4 w5 : World} {y : Row} (h : TyOwn B w4 v r) (hy : PartsAt B w4 y.2 y.1.parts) (h5 : w5.ownsRow B 77 4 v5 (r.length + 1) (rowOf tyRow r ++ rowOf tyRow [y])) (hg : w4.grownBy w5 v.ownBlock) : TyOwn B w5 v5 (r ++ [y]) := by
  have hkeep : ∀ (g : Nat) (cs : Array Value) (fr : Nat × Nat), w4.heap[g]? = some (.cells cs 3 fr) → w5.heap[g]? = w4.heap[g]? := fun g cs fr hgg => hg.block g (Array.getElem?_eq_some_iff.1 hgg).1 fun e => by
    obtain ⟨cs2, fr2, h3⟩ := own_typed h.1 g e.symm
    rw [hgg] at h3
    simp at h3
  refine ⟨?_, fun x hx => ?_⟩
  · rw [List.length_append, rowVals_of, rowOf_append]; exact h5
  · rcases List.mem_append.1 hx with hx | hx
    · exact parts_keep (h.2 x hx) hkeep
    · rw [List.mem_singleton.1 hx]; exact parts_keep hy hkeep

/-! the deferred closure -/
theorem catch_out (p : Addr) (x : Int) (w : World) (hc : w.cell? p = some (.int .i64 x)) (hz : w.frozen? p = false) :
    CallsD Tryz.prog 71 #[.pointer (some p)] (.panicking CH) w fun e u' w' =>
      e = .returned (.tuple #[]) ∧ u' = .panicking [{ v := .iface 22 (.int .i64 70), recovered := true }] ∧ w' = w.setCell p (.int .i64 70) := by
  unfold CH
  refine callsD_of_wpS Tryz.func71 rfl fun c₀ cs hu => ?_
  apply wpS_seq
  apply wpS_region
  simp [wpOpsS, go_sem, recoverD, hu, Tryz.ntmps71, Exit.thenS]
  refine wpS_cond (t := true) (by simp [Act.eval, Array.replicate]) ?_
  simp only [if_true]
  apply wpS_region
  simp [wpOpsS, go_sem, hc, hz, bodyPostS, results, Tryz.results71]
theorem catch_idle (p : Addr) (w : World) :
    CallsD Tryz.prog 71 #[.pointer (some p)] .returning w fun e u' w' => e = .returned (.tuple #[]) ∧ u' = .returning ∧ w' = w := by
  refine callsD_of_wpS Tryz.func71 rfl fun c₀ cs hu => ?_
  apply wpS_seq
  apply wpS_region
  simp [wpOpsS, go_sem, recoverD, hu, Tryz.ntmps71, Exit.thenS]
  refine wpS_cond (t := false) (by simp [Act.eval, Array.replicate]) ?_
  simp only [Bool.false_eq_true, if_false]
  refine wpS_of_wp (wp_skip ?_)
  cases c₀
  simp_all [bodyPostS, results, Tryz.results71]
end Go.Proofs.YtbebficgcemkoaaGreatDoor.RcV
