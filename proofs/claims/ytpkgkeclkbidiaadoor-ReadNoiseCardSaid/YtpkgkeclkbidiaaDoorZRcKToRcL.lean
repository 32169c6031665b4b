/- The reader's has, whole. An instruction as the reader makes it: its block and the result's, ahead of has and behind it. -/
import Derived.Test.YtpkgkeclkbidiaaDoorZRcJ
import Derived.Test.YtpkgkeclkbidiaaDoorZRcO
import Derived.Test.YtpkgkeclkbidiaaDoorZShAToShAn
namespace Go.Proofs.YtpkgkeclkbidiaaDoor.RcK
open Go.RowKit Go.Lib TyM TyP ShM ShP ShB IntO SetP LxM LxJ LxY RwO RdM RdN RdV RdB RdP Fresh Aft RcP RcA RcB RcC RcD RcT RcN RcU RcH RcI RcJ

variable {W : World} {b : Nat} {L : List Ln} {ws : Ln} {reg : Int} {tv : Value} {w : World}

theorem rest_some {op typ a c : Int} {l : Ln} {y : Ix} {ws' : Ln} (h : restC op typ a c l = some (y, ws')) : ∃ n l3, numC op l = some (n, l3) ∧
    ((argsB op = false ∧ y = ⟨op, typ, a, c, n, [], []⟩ ∧ ws' = l3) ∨ (argsB op = true ∧ op ≠ 22 ∧ ∃ r, marksO 114 l3 = some r ∧ y = ⟨op, typ, a, c, n, r, []⟩ ∧ ws' = []) ∨
      (argsB op = true ∧ op = 22 ∧ ∃ r, pairsO l3 = some r ∧ y = ⟨op, typ, a, c, n, r.map Prod.snd, r.map Prod.fst⟩ ∧ ws' = [])) := by
  unfold restC at h
  cases hn : numC op l with
  | none => rw [hn] at h; cases h
  | some q =>
    obtain ⟨n, l3⟩ := q
    rw [hn] at h
    simp only at h
    refine ⟨n, l3, rfl, ?_⟩
    unfold argC at h
    cases hr : argsB op with
    | false =>
      rw [hr] at h
      simp at h
      exact .inl ⟨rfl, h.1.symm, h.2.symm⟩
    | true =>
      rw [hr] at h
      simp only [if_true] at h
      by_cases h22 : op = 22
      · rw [if_pos h22] at h
        cases hp : pairsO l3 with
        | none => rw [hp] at h; cases h
        | some r =>
          rw [hp] at h
          simp at h
          exact .inr (.inr ⟨rfl, h22, r, rfl, h.1.symm, h.2⟩)
      · rw [if_neg h22] at h
        cases hp : marksO 114 l3 with
        | none => rw [hp] at h; cases h
        | some r =>
          rw [hp] at h
          simp at h
          exact .inr (.inl ⟨rfl, h22, r, rfl, h.1.symm, h.2⟩)
theorem rest_none {op typ a c : Int} {l : Ln} (h : restC op typ a c l = none) : numC op l = none ∨ ∃ n l3, numC op l = some (n, l3) ∧ argsB op = true ∧ ((op ≠ 22 ∧ marksO 114 l3 = none) ∨ (op = 22 ∧ pairsO l3 = none)) := by
  unfold restC at h
  cases hn : numC op l with
  | none => exact .inl rfl
  | some q =>
    obtain ⟨n, l3⟩ := q
    rw [hn] at h
    simp only at h
    refine .inr ⟨n, l3, rfl, ?_⟩
    unfold argC at h
    cases hr : argsB op with
    | false => rw [hr] at h; simp at h
    | true =>
      rw [hr] at h
      simp only [if_true] at h
      refine ⟨rfl, ?_⟩
      by_cases h22 : op = 22
      · rw [if_pos h22] at h
        cases hp : pairsO l3 with
        | none => exact .inr ⟨h22, rfl⟩
        | some r => rw [hp] at h; simp at h
      · rw [if_neg h22] at h
        cases hp : marksO 114 l3 with
        | none => exact .inl ⟨h22, rfl⟩
        | some r => rw [hp] at h; simp at h
theorem two_args {op : Int} (h : twoB op = true) : argsB op = false := by
  unfold twoB at h
  unfold argsB
  simp at h ⊢
  omega
theorem ab_phi {op : Int} (h : hasAB op = true) : (op == 22) = false := by
  unfold hasAB twoB at h
  simp at h ⊢
  omega
/-- what an instruction has, or none -/
theorem has_yes {bx : Nat} {op typ : Int} {y : Ix} {ws' : Ln} (h : HasS W b L ws reg tv w bx (ix0 op typ) (.slice none 0 0) (.slice none 0 0) w) (htab : ShA.Tab W) (h0 : 0 ≤ op) (h22 : op ≤ 22) (hm : hasC op typ ws = some (y, ws')) :
    Calls Tryd.prog 92 #[.pointer (some ⟨b, 0, none⟩), .pointer (some ⟨bx, 0, none⟩)] w (HasO W b L ws' reg tv bx y w) := by
  unfold hasC aC at hm
  cases hA : hasAB op with
  | false =>
    have hB : twoB op = false := by
      cases hB : twoB op with
      | false => rfl
      | true => rw [two_ab hB] at hA; cases hA
    rw [hA, hB] at hm
    simp only [Bool.false_eq_true, if_false] at hm
    obtain ⟨n, l3, hN, ⟨hR, rfl, rfl⟩ | ⟨hR, ho, r, hr, rfl, rfl⟩ | ⟨hR, ho, r, hr, rfl, rfl⟩⟩ := rest_some hm
    · exact has_none00 h htab h0 h22 hA hB hN hR
    · exact has_args00 h htab h0 h22 hA hB hN hR (by simpa using ho) hr
    · exact has_phi00 h htab h0 h22 hA hB hN hR (by simpa using ho) hr
  | true =>
    rw [hA] at hm
    simp only [if_true] at hm
    cases hq : markC 114 ws with
    | none => rw [hq] at hm; cases hm
    | some q =>
      obtain ⟨a, l1⟩ := q
      rw [hq] at hm
      simp only at hm
      cases hB : twoB op with
      | false =>
        rw [hB] at hm
        simp only [Bool.false_eq_true, if_false] at hm
        obtain ⟨n, l3, hN, ⟨hR, rfl, rfl⟩ | ⟨hR, ho, r, hr, rfl, rfl⟩ | ⟨hR, ho, r, hr, rfl, rfl⟩⟩ := rest_some hm
        · exact has_none10 h htab h0 h22 hA hB hq hN hR
        · exact has_args10 h htab h0 h22 hA hB hq hN hR (by simpa using ho) hr
        · have := ab_phi hA
          simp [ho] at this
      | true =>
        rw [hB] at hm
        simp only [if_true] at hm
        cases hq2 : markC 114 l1 with
        | none => rw [hq2] at hm; cases hm
        | some q =>
          obtain ⟨c, l2⟩ := q
          rw [hq2] at hm
          simp only at hm
          obtain ⟨n, l3, hN, ⟨hR, rfl, rfl⟩ | ⟨hR, ho, r, hr, rfl, rfl⟩ | ⟨hR, ho, r, hr, rfl, rfl⟩⟩ := rest_some hm
          · exact has_none11 h htab h0 h22 hA hB hq hq2 hN hR
          · rw [two_args hB] at hR; cases hR
          · rw [two_args hB] at hR; cases hR
theorem has_no {bx : Nat} {op typ : Int} (h : HasS W b L ws reg tv w bx (ix0 op typ) (.slice none 0 0) (.slice none 0 0) w) (htab : ShA.Tab W) (h0 : 0 ≤ op) (h22 : op ≤ 22) (hm : hasC op typ ws = none) :
    Calls Tryd.prog 92 #[.pointer (some ⟨b, 0, none⟩), .pointer (some ⟨bx, 0, none⟩)] w (Out2 b bx w) := by
  unfold hasC aC at hm
  cases hA : hasAB op with
  | false =>
    have hB : twoB op = false := by
      cases hB : twoB op with
      | false => rfl
      | true => rw [two_ab hB] at hA; cases hA
    rw [hA, hB] at hm
    simp only [Bool.false_eq_true, if_false] at hm
    rcases rest_none hm with hN | ⟨n, l3, hN, hR, ⟨ho, hr⟩ | ⟨ho, hr⟩⟩
    · exact has_noN00 h htab h0 h22 hA hB hN
    · exact has_args00_no h htab h0 h22 hA hB hN hR (by simpa using ho) hr
    · exact has_phi00_no h htab h0 h22 hA hB hN hR (by simpa using ho) hr
  | true =>
    rw [hA] at hm
    simp only [if_true] at hm
    cases hq : markC 114 ws with
    | none => exact has_noA h htab h0 h22 hA hq
    | some q =>
      obtain ⟨a, l1⟩ := q
      rw [hq] at hm
      simp only at hm
      cases hB : twoB op with
      | false =>
        rw [hB] at hm
        simp only [Bool.false_eq_true, if_false] at hm
        rcases rest_none hm with hN | ⟨n, l3, hN, hR, ⟨ho, hr⟩ | ⟨ho, hr⟩⟩
        · exact has_noN10 h htab h0 h22 hA hB hq hN
        · exact has_args10_no h htab h0 h22 hA hB hq hN hR (by simpa using ho) hr
        · have := ab_phi hA
          simp [ho] at this
      | true =>
        rw [hB] at hm
        simp only [if_true] at hm
        cases hq2 : markC 114 l1 with
        | none => exact has_noB h htab h0 h22 hA hB hq hq2
        | some q =>
          obtain ⟨c, l2⟩ := q
          rw [hq2] at hm
          simp only at hm
          rcases rest_none hm with hN | ⟨n, l3, hN, hR, _⟩
          · exact has_noN11 h htab h0 h22 hA hB hq hq2 hN
          · rw [two_args hB] at hR; cases hR
end Go.Proofs.YtpkgkeclkbidiaaDoor.RcK
namespace Go.Proofs.YtpkgkeclkbidiaaDoor.RcL
open Go.RowKit Go.Lib TyM TyP ShM ShP ShB IntO SetP LxM LxJ LxY RwO RdM RdN RdV RdB RdP Fresh Aft RcP RcA RcB RcC RcD RcT RcH RcI RcK

variable {W : World} {b : Nat} {L : List Ln} {ws : Ln} {reg : Int} {tv : Value} {w : World}

/-- the result's block and the instruction's own -/
structure InsS (W : World) (b : Nat) (L : List Ln) (ws : Ln) (reg : Int) (tv : Value) (w : World) (bx : Nat) (x : Ix) (va vf : Value) (wr : World) : Prop where
  rdr : Rdr W b L ws reg tv wr
  kept : Kept [b] w wr
  res : wr.heap[w.heap.size]? = some (.cells #[.int .u8 0, .int .i64 0, .int .i64 0, .int .i64 0, .int .i64 0, .slice none 0 0, .slice none 0 0] 39 (0, 0))
  box : BoxH w.heap.size bx x va vf wr
  nb : b < w.heap.size
  lo : W.heap.size ≤ w.heap.size
  lt : w.heap.size < bx
theorem InsS.go {bx : Nat} {x : Ix} {va vf : Value} {wr w' : World} {ws' : Ln} {L' : List Ln} {reg' : Int} (h : InsS W b L ws reg tv w bx x va vf wr) (hr : Rdr W b L' ws' reg' tv w') (hk : Kept [b] wr w') : InsS W b L' ws' reg' tv w bx x va vf w' :=
  ⟨hr, h.kept.trans hk, hk.heap h.res (fun e => by have := List.mem_singleton.1 e; have := h.nb; omega), h.box.go h.rdr (by have := h.nb; have := h.lt; omega) hk, h.nb, h.lo, h.lt⟩
theorem InsS.on {bx : Nat} {x : Ix} {va vf : Value} {wr w' : World} (h : InsS W b L ws reg tv w bx x va vf wr) (hk : Below wr.heap.size wr w') : InsS W b L ws reg tv w bx x va vf w' := h.go (h.rdr.on hk) (kept_below hk)
theorem InsS.draw {bx : Nat} {x : Ix} {va vf : Value} {wr : World} (h : InsS W b L ws reg tv w bx x va vf wr) : InsS W b L ws reg tv w bx x va vf wr.drew := h.on ((Below.refl _ wr).drew)
theorem InsS.set {bx i : Nat} {x y : Ix} {va vf : Value} {wr : World} (h : InsS W b L ws reg tv w bx x va vf wr) {u : Value} (hb : BoxH w.heap.size bx y va vf (wr.setCell ⟨bx, i, none⟩ u)) : InsS W b L ws reg tv w bx y va vf (wr.setCell ⟨bx, i, none⟩ u) := by
  have h1 := h.nb; have h2 := h.lt; have h3 := h.lo
  have hk : Kept [bx] wr (wr.setCell ⟨bx, i, none⟩ u) := (Kept.refl [bx] wr).set (.inl (by simp)) u
  exact ⟨Rdr_one h.rdr hk (by omega) (by omega), Kept_new h.kept hk (by omega), hk.heap h.res (fun e => by have := List.mem_singleton.1 e; omega), hb, h1, h3, h2⟩
theorem InsS.regs {bx : Nat} {x : Ix} {va vf : Value} {wr : World} (h : InsS W b L ws reg tv w bx x va vf wr) (q : Int) : InsS W b L ws q tv w bx x va vf (wr.setCell ⟨b, 2, none⟩ (.int .i64 q)) :=
  h.go (h.rdr.regs q) ((Kept.refl [b] wr).set (.inl (by simp)) _)
/-- handed to has -/
theorem InsS.has {bx : Nat} {op typ : Int} {wr : World} (h : InsS W b L ws reg tv w bx (ix0 op typ) (.slice none 0 0) (.slice none 0 0) wr) : HasS W b L ws reg tv wr bx (ix0 op typ) (.slice none 0 0) (.slice none 0 0) wr :=
  ⟨h.rdr, Kept.refl _ _, ⟨h.box.box, World.ownsRow_nil _ _ _ _, World.ownsRow_nil _ _ _ _, fun g hg => by cases hg⟩, by have := h.nb; have := h.lt; omega, by have := h.lo; have := h.lt; omega, (Array.getElem?_eq_some_iff.1 h.box.box).1⟩
theorem kept_two {bx : Nat} {a wr w' : World} (h : Kept [b] a wr) (k : Kept [b, bx] wr w') (hn : a.heap.size ≤ bx) : Kept [b] a w' :=
  ((h.mono (F := [bx, b]) (by simp)).trans (k.mono (F := [bx, b]) (by simp))).new hn
/-- behind has -/
theorem InsS.back {bx : Nat} {x y : Ix} {va vf : Value} {wr w' : World} {ws' : Ln} {v1 v2 : Value} (h : InsS W b L ws reg tv w bx x v1 v2 wr) (k : HasS W b L ws' reg tv wr bx y va vf w') : InsS W b L ws' reg tv w bx y va vf w' := by
  have h1 := h.nb; have h2 := h.lt; have h3 := h.kept.size
  exact ⟨k.rdr, kept_two h.kept k.kept (by omega), k.kept.heap h.res (by simp; omega), ⟨k.box.box, owns_base k.box.owa h3, owns_base k.box.owf h3, k.box.apart⟩, h1, h.lo, h2⟩
theorem InsS.facts {bx : Nat} {x : Ix} {va vf : Value} {wr : World} (h : InsS W b L ws reg tv w bx x va vf wr) : (wr.cell? ⟨bx, 0, none⟩ = some (.int .u8 x.op) ∧ wr.cell? ⟨bx, 1, none⟩ = some (.int .i64 x.typ) ∧ wr.cell? ⟨bx, 2, none⟩ = some (.int .i64 x.a) ∧ wr.cell? ⟨bx, 3, none⟩ = some (.int .i64 x.b) ∧ wr.cell? ⟨bx, 4, none⟩ = some (.int .i64 x.n) ∧ wr.cell? ⟨bx, 5, none⟩ = some va ∧ wr.cell? ⟨bx, 6, none⟩ = some vf) ∧ (∀ i, wr.frozen? ⟨bx, i, none⟩ = false) :=
  ⟨⟨cells_of h.box.box 0 _ rfl, cells_of h.box.box 1 _ rfl, cells_of h.box.box 2 _ rfl, cells_of h.box.box 3 _ rfl, cells_of h.box.box 4 _ rfl, cells_of h.box.box 5 _ rfl, cells_of h.box.box 6 _ rfl⟩, (ShTB.cells_heap h.box.box).2⟩
/-- both blocks made -/
theorem InsS.start {l : Ln} {w1 : World} (h : Rdr W b L l reg tv w1) (hb : b < w.heap.size) (hW : W.heap.size ≤ w.heap.size) (hk : Kept [b] (w.alloc (.cells #[.int .u8 0, .int .i64 0, .int .i64 0, .int .i64 0, .int .i64 0, .slice none 0 0, .slice none 0 0] 39)) w1) :
    InsS W b L l reg tv w w1.heap.size (ix0 0 0) (.slice none 0 0) (.slice none 0 0) (w1.alloc (.cells #[.int .u8 0, .int .i64 0, .int .i64 0, .int .i64 0, .int .i64 0, .slice none 0 0, .slice none 0 0] 39)) := by
  have hs := hk.size
  rw [World.size_alloc] at hs
  refine ⟨h.on (alloc_below _ _), (((Kept.refl [b] w).alloc _).trans hk).alloc _, ?_, ⟨alloc_new _ _, World.ownsRow_nil _ _ _ _, World.ownsRow_nil _ _ _ _, fun g hg => by cases hg⟩, hb, hW, by omega⟩
  exact alloc_old (hk.heap (alloc_new _ _) (fun e => by have := List.mem_singleton.1 e; omega)) _
/-- an instruction, the reader at the line's end -/
def InsO (W : World) (b : Nat) (L : List Ln) (reg : Int) (tv : Value) (y : Ix) (w : World) (e : Ending) (w' : World) : Prop :=
  ∃ va vf, e = .returned (ixV y va vf) ∧ OwnIr w.heap.size w' ⟨y, va, vf⟩ ∧ Rdr W b L [] reg tv w' ∧ Kept [b] w w'
/-- the result's block stored into whole -/
theorem InsS.done {bx : Nat} {y : Ix} {va vf : Value} {wr : World} (h : InsS W b L [] reg tv w bx y va vf wr) :
    ∃ W3, W3 = (((((((wr.setCell ⟨w.heap.size, 0, none⟩ (.int .u8 y.op)).setCell ⟨w.heap.size, 1, none⟩ (.int .i64 y.typ)).setCell ⟨w.heap.size, 2, none⟩ (.int .i64 y.a)).setCell ⟨w.heap.size, 3, none⟩ (.int .i64 y.b)).setCell ⟨w.heap.size, 4, none⟩ (.int .i64 y.n)).setCell ⟨w.heap.size, 5, none⟩ va).setCell ⟨w.heap.size, 6, none⟩ vf) ∧
      W3.heap[w.heap.size]? = some (.cells #[.int .u8 y.op, .int .i64 y.typ, .int .i64 y.a, .int .i64 y.b, .int .i64 y.n, va, vf] 39 (0, 0)) ∧ OwnIr w.heap.size W3 ⟨y, va, vf⟩ ∧ Rdr W b L [] reg tv W3 ∧ Kept [b] w W3 := by
  obtain ⟨W3, h1, h2, h3, h4⟩ := set7_world wr w.heap.size 39 (.int .u8 0) (.int .i64 0) (.int .i64 0) (.int .i64 0) (.int .i64 0) (.slice none 0 0) (.slice none 0 0) (.int .u8 y.op) (.int .i64 y.typ) (.int .i64 y.a) (.int .i64 y.b) (.int .i64 y.n) va vf h.res
  have hbl := h4 0 wr (Below.refl _ _) (Nat.zero_le _)
  have hone := kept_one h2 hbl
  have h5 := h.nb
  exact ⟨W3, h1, h3, ⟨owns_other h.box.owa hone.grown (ShTB.typed_at h.res) (by decide), owns_other h.box.owf hone.grown (ShTB.typed_at h.res) (by decide)⟩, Rdr_one h.rdr hone h.lo (by omega), Kept_new h.kept hone (Nat.le_refl _)⟩
end Go.Proofs.YtpkgkeclkbidiaaDoor.RcL
