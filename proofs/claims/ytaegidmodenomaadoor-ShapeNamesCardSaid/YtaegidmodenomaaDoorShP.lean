/- Programs as they lie in memory. -/
import Derived.Test.YtaegidmodenomaaDoorShM
import Derived.Test.YtaegidmodenomaaDoorTyP
import Derived.Test.YtaegidmodenomaaDoorTyPre
namespace Go.Proofs.YtaegidmodenomaaDoor.ShP
open Go.RowKit Go.Lib SetP IntO TyM TyP ShM TyB

/-- a slice that lies in memory: its value, and its elements, of so many cells each -/
def RowAt {α : Type} (sz : Nat) (In : World → Nat → Nat → α → Prop) (w : World) (v : Value) (l : List α) : Prop :=
  ∃ ao cap, v = .slice ao l.length cap ∧ l.length ≤ 9223372036854775807 ∧ (0 < l.length → ∃ b off, ao = some ⟨b, off, none⟩ ∧ b < w.heap.size ∧ ∀ i (h : i < l.length), In w b (off + i * sz) l[i]) ∧ (ao = none → cap = 0) ∧ l.length ≤ cap
def Stays {α : Type} (In : World → Nat → Nat → α → Prop) : Prop := ∀ (w w' : World) (b o : Nat) (x : α), In w b o x → b < w.heap.size → Below w.heap.size w w' → In w' b o x
theorem RowAt.below {α : Type} {sz : Nat} {In : World → Nat → Nat → α → Prop} (hs : Stays In) {w w' : World} {v : Value} {l : List α} (h : RowAt sz In w v l) (hb : Below w.heap.size w w') : RowAt sz In w' v l := by
  obtain ⟨ao, cap, hv, hl, hm, hz⟩ := h
  refine ⟨ao, cap, hv, hl, fun h0 => ?_, hz⟩
  obtain ⟨b, off, ha, hlt, hc⟩ := hm h0
  exact ⟨b, off, ha, Nat.lt_of_lt_of_le hlt hb.size, fun i hi => hs _ _ _ _ _ (hc i hi) hlt hb⟩
theorem RowAt.slice {α : Type} {sz : Nat} {In : World → Nat → Nat → α → Prop} {w : World} {v : Value} {l : List α} (h : RowAt sz In w v l) : ∃ ao cap, v = .slice ao l.length cap ∧ l.length ≤ 9223372036854775807 := by
  obtain ⟨ao, cap, hv, hl, _⟩ := h
  exact ⟨ao, cap, hv, hl⟩
theorem RowAt.at {α : Type} {sz : Nat} {In : World → Nat → Nat → α → Prop} {w : World} {ao : Option Addr} {n cap : Nat} {l : List α} (h : RowAt sz In w (.slice ao n cap) l) (k : Nat) (hk : k < l.length) : ∃ b off, ao = some ⟨b, off, none⟩ ∧ b < w.heap.size ∧ In w b (off + k * sz) l[k] := by
  obtain ⟨ao', cap', hv, hl, hm, hz⟩ := h
  cases hv
  obtain ⟨b, off, ha, hlt, hc⟩ := hm (by omega)
  exact ⟨b, off, ha, hlt, hc k hk⟩
theorem RowAt.cap {α : Type} {sz : Nat} {In : World → Nat → Nat → α → Prop} {w : World} {ao : Option Addr} {n cap : Nat} {l : List α} (h : RowAt sz In w (.slice ao n cap) l) : l.length ≤ cap := by
  obtain ⟨ao', cap', hv, _, _, _, hc⟩ := h
  cases hv; exact hc
theorem RowAt.len {α : Type} {sz : Nat} {In : World → Nat → Nat → α → Prop} {w : World} {ao : Option Addr} {n cap : Nat} {l : List α} (h : RowAt sz In w (.slice ao n cap) l) : n = l.length := by
  obtain ⟨ao', cap', hv, _⟩ := h
  cases hv; rfl
theorem RowAt.none {α : Type} {sz : Nat} {In : World → Nat → Nat → α → Prop} (w : World) : RowAt sz In w (.slice none 0 0) [] := ⟨.none, 0, rfl, by simp, (fun h => by simp at h), (fun _ => rfl), by simp⟩
/-- the first ones of a row -/
theorem RowAt.take {α : Type} {sz : Nat} {In : World → Nat → Nat → α → Prop} {w : World} {ao : Option Addr} {n cap : Nat} {l : List α} (h : RowAt sz In w (.slice ao n cap) l) (k : Nat) (hk : k ≤ l.length) : RowAt sz In w (.slice ao k cap) (l.take k) := by
  obtain ⟨ao', cap', hv, hl, hm, hz, hc⟩ := h
  cases hv
  have hlen : (l.take k).length = k := by rw [List.length_take]; omega
  refine ⟨ao, cap, by rw [hlen], by omega, fun h0 => ?_, hz, by omega⟩
  obtain ⟨b, off, ha, hlt, hcell⟩ := hm (by omega)
  refine ⟨b, off, ha, hlt, fun i hi => ?_⟩
  rw [List.getElem_take]
  exact hcell i (by omega)

/-- an instruction by value -/
abbrev ixV (x : Ix) (va vf : Value) : Value := .agg #[.int .u8 x.op, .int .i64 x.typ, .int .i64 x.a, .int .i64 x.b, .int .i64 x.n, va, vf]
abbrev exV (x : Ex) : Value := .agg #[.int .u8 x.kind, .int .i64 x.a, .int .i64 x.to, .int .i64 x.els]
abbrev bxV (x : Bx) (vi : Value) : Value := .agg #[vi, .int .u8 x.en.kind, .int .i64 x.en.a, .int .i64 x.en.to, .int .i64 x.en.els]
abbrev fxV (x : Fx) (vb : Value) : Value := .agg #[.int .i64 x.sig, vb]

def InsIn (w : World) (b o : Nat) (x : Ix) : Prop :=
  ∃ va vf, w.cell? ⟨b, o, none⟩ = some (.int .u8 x.op) ∧ w.cell? ⟨b, o + 1, none⟩ = some (.int .i64 x.typ) ∧ w.cell? ⟨b, o + 2, none⟩ = some (.int .i64 x.a) ∧ w.cell? ⟨b, o + 3, none⟩ = some (.int .i64 x.b) ∧ w.cell? ⟨b, o + 4, none⟩ = some (.int .i64 x.n) ∧
    w.cell? ⟨b, o + 5, none⟩ = some va ∧ w.cell? ⟨b, o + 6, none⟩ = some vf ∧ IntsAt w va x.args ∧ IntsAt w vf x.frm
theorem insStays : Stays InsIn := by
  intro w w' b o x h hlt hb
  obtain ⟨va, vf, h0, h1, h2, h3, h4, h5, h6, h7, h8⟩ := h
  exact ⟨va, vf, (hb.cell (p := ⟨b, _, none⟩) hlt).trans h0, (hb.cell (p := ⟨b, _, none⟩) hlt).trans h1, (hb.cell (p := ⟨b, _, none⟩) hlt).trans h2, (hb.cell (p := ⟨b, _, none⟩) hlt).trans h3, (hb.cell (p := ⟨b, _, none⟩) hlt).trans h4, (hb.cell (p := ⟨b, _, none⟩) hlt).trans h5, (hb.cell (p := ⟨b, _, none⟩) hlt).trans h6, h7.below hb, h8.below hb⟩
abbrev InsAt := RowAt 7 InsIn
def BlkIn (w : World) (b o : Nat) (x : Bx) : Prop :=
  ∃ vi, w.cell? ⟨b, o, none⟩ = some vi ∧ w.cell? ⟨b, o + 1, none⟩ = some (.int .u8 x.en.kind) ∧ w.cell? ⟨b, o + 2, none⟩ = some (.int .i64 x.en.a) ∧ w.cell? ⟨b, o + 3, none⟩ = some (.int .i64 x.en.to) ∧ w.cell? ⟨b, o + 4, none⟩ = some (.int .i64 x.en.els) ∧ InsAt w vi x.ins
theorem blkStays : Stays BlkIn := by
  intro w w' b o x h hlt hb
  obtain ⟨vi, h0, h1, h2, h3, h4, h5⟩ := h
  exact ⟨vi, (hb.cell (p := ⟨b, _, none⟩) hlt).trans h0, (hb.cell (p := ⟨b, _, none⟩) hlt).trans h1, (hb.cell (p := ⟨b, _, none⟩) hlt).trans h2, (hb.cell (p := ⟨b, _, none⟩) hlt).trans h3, (hb.cell (p := ⟨b, _, none⟩) hlt).trans h4, h5.below insStays hb⟩
abbrev BlksAt := RowAt 5 BlkIn
def FnIn (w : World) (b o : Nat) (x : Fx) : Prop :=
  ∃ vb, w.cell? ⟨b, o, none⟩ = some (.int .i64 x.sig) ∧ w.cell? ⟨b, o + 1, none⟩ = some vb ∧ BlksAt w vb x.blocks
theorem fnStays : Stays FnIn := by
  intro w w' b o x h hlt hb
  obtain ⟨vb, h0, h1, h2⟩ := h
  exact ⟨vb, (hb.cell (p := ⟨b, _, none⟩) hlt).trans h0, (hb.cell (p := ⟨b, _, none⟩) hlt).trans h1, h2.below blkStays hb⟩
abbrev FnsAt := RowAt 2 FnIn
/-- a program by value -/
def PrAt (w : World) (v : Value) (p : Px) : Prop := ∃ vt vf, v = .agg #[vt, vf] ∧ TysAt w vt p.types ∧ FnsAt w vf p.funcs
theorem PrAt.below {w w' : World} {v : Value} {p : Px} (h : PrAt w v p) (hb : Below w.heap.size w w') : PrAt w' v p := by
  obtain ⟨vt, vf, h1, h2, h3⟩ := h
  exact ⟨vt, vf, h1, h2.below hb, h3.below fnStays hb⟩

theorem alloc_below (w : World) (o : Obj) : Below w.heap.size w (w.alloc o) := (Below.refl _ _).alloc (Nat.le_refl _) _
theorem keep_below {w w' : World} {a : Addr} {v : Value} (hb : Below w.heap.size w w') (h : w.cell? a = some v) : w'.cell? a = some v := (hb.cell (World.block_lt_of_cell? w a h)).trans h
/-- a number, and old memory stays -/
def NumR (n : Int) (w : World) (e : Ending) (w' : World) : Prop := e = .returned (.int .i64 n) ∧ Below w.heap.size w w'

/-! how great programs are -/
def manyB (l : List Bx) : Nat := (l.map fun b => b.ins.length).sum
structure Small (p : Px) : Prop where
  types : p.types.length ≤ 20
  parts : ∀ x ∈ p.types, x.parts.length ≤ 20
  funcs : p.funcs.length ≤ 10
  blocks : ∀ f ∈ p.funcs, f.blocks.length ≤ 20
  many : ∀ f ∈ p.funcs, manyB f.blocks ≤ 300
  args : ∀ f ∈ p.funcs, ∀ b ∈ f.blocks, ∀ x ∈ b.ins, x.args.length ≤ 20 ∧ x.frm.length ≤ 20
theorem manyB_nil : manyB [] = 0 := rfl
theorem manyB_cons (b : Bx) (l : List Bx) : manyB (b :: l) = b.ins.length + manyB l := by simp [manyB]
theorem manyB_append (a b : List Bx) : manyB (a ++ b) = manyB a + manyB b := by simp [manyB]
theorem manyB_take {l : List Bx} {k : Nat} (h : k < l.length) : manyB (l.take (k + 1)) = manyB (l.take k) + l[k].ins.length := by
  rw [List.take_succ_eq_append_getElem h, manyB_append, manyB_cons, manyB_nil, Nat.add_zero]
theorem manyB_le (l : List Bx) (k : Nat) : manyB (l.take k) ≤ manyB l := by
  conv => rhs; rw [← List.take_append_drop k l, manyB_append]
  omega
theorem manyB_mem {l : List Bx} {k : Nat} (h : k < l.length) : l[k].ins.length ≤ manyB l := by
  have h1 := manyB_take h
  have h2 := manyB_le l (k + 1)
  omega
end Go.Proofs.YtaegidmodenomaaDoor.ShP
