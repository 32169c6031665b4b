/- Plain facts on programs as data: what an instruction has, which shapes may be, registers and places. -/
import Derived.Test.YtaegidmodenomaaDoorTyM
namespace Go.Proofs.YtaegidmodenomaaDoor.ShM
open TyM

/-- an instruction -/
structure Ix where
  op : Int
  typ : Int
  a : Int
  b : Int
  n : Int
  args : List Int
  frm : List Int
/-- an end -/
structure Ex where
  kind : Int
  a : Int
  to : Int
  els : Int
/-- a block -/
structure Bx where
  ins : List Ix
  en : Ex
/-- a function -/
structure Fx where
  sig : Int
  blocks : List Bx
/-- a program -/
structure Px where
  types : List Ty
  funcs : List Fx

theorem ix_eq {x y : Ix} : x = y ↔ x.op = y.op ∧ x.typ = y.typ ∧ x.a = y.a ∧ x.b = y.b ∧ x.n = y.n ∧ x.args = y.args ∧ x.frm = y.frm := by
  cases x; cases y; simp
instance : DecidableEq Ix := fun _ _ => decidable_of_iff _ ix_eq.symm
theorem ex_eq {x y : Ex} : x = y ↔ x.kind = y.kind ∧ x.a = y.a ∧ x.to = y.to ∧ x.els = y.els := by
  cases x; cases y; simp
instance : DecidableEq Ex := fun _ _ => decidable_of_iff _ ex_eq.symm
theorem bx_eq {x y : Bx} : x = y ↔ x.ins = y.ins ∧ x.en = y.en := by
  cases x; cases y; simp
instance : DecidableEq Bx := fun _ _ => decidable_of_iff _ bx_eq.symm
theorem fx_eq {x y : Fx} : x = y ↔ x.sig = y.sig ∧ x.blocks = y.blocks := by
  cases x; cases y; simp
instance : DecidableEq Fx := fun _ _ => decidable_of_iff _ fx_eq.symm
theorem px_eq {x y : Px} : x = y ↔ x.types = y.types ∧ x.funcs = y.funcs := by
  cases x; cases y; simp
instance : DecidableEq Px := fun _ _ => decidable_of_iff _ px_eq.symm
instance : Inhabited Ix := ⟨⟨0, 0, 0, 0, 0, [], []⟩⟩
instance : Inhabited Bx := ⟨⟨[], ⟨0, 0, 0, 0⟩⟩⟩
instance : Inhabited Fx := ⟨⟨0, []⟩⟩

/-! what an instruction, and an end, has: the code's tables -/
structure Has where
  typ : Int
  a : Int
  b : Int
  n : Int
  least : Int
  most : Int
  per : Int
theorem has_eq {x y : Has} : x = y ↔ x.typ = y.typ ∧ x.a = y.a ∧ x.b = y.b ∧ x.n = y.n ∧ x.least = y.least ∧ x.most = y.most ∧ x.per = y.per := by
  cases x; cases y; simp
instance : DecidableEq Has := fun _ _ => decidable_of_iff _ has_eq.symm
def has0 : Has := ⟨0, 0, 0, 0, 0, 0, 0⟩
def rowsH : List Has :=
  [⟨0, 0, 0, 0, 0, 0, 0⟩, ⟨2, 0, 0, 1, 0, 0, 0⟩, ⟨2, 0, 0, 0, 0, 0, 0⟩, ⟨2, 0, 0, 4, 0, 0, 0⟩, ⟨2, 3, 3, 0, 0, 0, 0⟩, ⟨2, 3, 3, 0, 0, 0, 0⟩, ⟨2, 3, 3, 0, 0, 0, 0⟩, ⟨2, 3, 3, 0, 0, 0, 0⟩,
   ⟨2, 3, 3, 0, 0, 0, 0⟩, ⟨2, 3, 3, 0, 0, 0, 0⟩, ⟨2, 3, 3, 0, 0, 0, 0⟩, ⟨2, 0, 0, 0, 0, 0, 0⟩, ⟨2, 0, 0, 0, 0, 0, 0⟩, ⟨0, 3, 0, 0, 0, 0, 0⟩, ⟨2, 3, 0, 6, 0, 0, 0⟩, ⟨2, 3, 3, 0, 0, 0, 0⟩,
   ⟨2, 3, 0, 0, 0, 0, 0⟩, ⟨0, 3, 3, 0, 0, 0, 0⟩, ⟨2, 0, 0, 4, 0, 4, 0⟩, ⟨2, 3, 0, 0, 0, 4, 0⟩, ⟨2, 0, 0, 0, 0, 0, 0⟩, ⟨0, 3, 0, 0, 0, 0, 0⟩, ⟨2, 0, 0, 0, 1, 16, 1⟩]
def hasOf (op : Int) : Has := (rowsH[op.toNat]?).getD has0
theorem hasOf_over {op : Int} (h : 23 ≤ op) : hasOf op = has0 := by
  unfold hasOf
  rw [List.getElem?_eq_none]
  · rfl
  · show 23 ≤ _
    omega
structure HasE where
  a : Int
  to : Int
  els : Int
theorem hase_eq {x y : HasE} : x = y ↔ x.a = y.a ∧ x.to = y.to ∧ x.els = y.els := by
  cases x; cases y; simp
instance : DecidableEq HasE := fun _ _ => decidable_of_iff _ hase_eq.symm
def hasE0 : HasE := ⟨0, 0, 0⟩
def rowsE : List HasE := [⟨0, 0, 0⟩, ⟨0, 5, 0⟩, ⟨3, 5, 5⟩, ⟨3, 0, 0⟩]
def hasEOf (k : Int) : HasE := (rowsE[k.toNat]?).getD hasE0
theorem hasEOf_over {k : Int} (h : 4 ≤ k) : hasEOf k = hasE0 := by
  unfold hasEOf
  rw [List.getElem?_eq_none]
  · rfl
  · show 4 ≤ _
    omega

/-! by the document's words -/
def twoB (op : Int) : Bool := decide ((4 ≤ op ∧ op ≤ 10) ∨ op = 15 ∨ op = 17)
def hasAB (op : Int) : Bool := twoB op || decide (op = 13 ∨ op = 14 ∨ op = 16 ∨ op = 19 ∨ op = 21)
def argsB (op : Int) : Bool := decide (op = 18 ∨ op = 19 ∨ op = 22)
def answersB (op : Int) : Bool := decide (1 ≤ op ∧ op ≤ 22 ∧ op ≠ 13 ∧ op ≠ 17 ∧ op ≠ 21)
/-- the registers that an instruction reads -/
def usesOf (x : Ix) : List Int := (if hasAB x.op = true then [x.a] else []) ++ ((if twoB x.op = true then [x.b] else []) ++ (if argsB x.op = true then x.args else []))
def endsOf (x : Ex) : List Int := if x.kind = 2 ∨ x.kind = 3 then [x.a] else []

theorem op_cases {op : Int} (h0 : 0 ≤ op) : (∃ k : Fin 23, op = (k.val : Int)) ∨ 23 ≤ op := by
  by_cases h : op < 23
  · exact .inl ⟨⟨op.toNat, by omega⟩, by simp; omega⟩
  · exact .inr (by omega)
theorem has_tell : ∀ k : Fin 23, decide ((hasOf (k.val : Int)).typ = 2) = answersB k.val ∧ decide ((hasOf (k.val : Int)).a = 3) = hasAB k.val ∧ decide ((hasOf (k.val : Int)).b = 3) = twoB k.val ∧ decide (0 < (hasOf (k.val : Int)).most) = argsB k.val := by decide
theorem has_tells {op : Int} (h0 : 0 ≤ op) : decide ((hasOf op).typ = 2) = answersB op ∧ decide ((hasOf op).a = 3) = hasAB op ∧ decide ((hasOf op).b = 3) = twoB op ∧ decide (0 < (hasOf op).most) = argsB op := by
  rcases op_cases h0 with ⟨k, rfl⟩ | h
  · exact has_tell k
  · rw [hasOf_over h]
    have e1 : answersB op = false := by unfold answersB; simp; omega
    have e2 : twoB op = false := by unfold twoB; simp; omega
    have e3 : hasAB op = false := by unfold hasAB; rw [e2]; simp; omega
    have e4 : argsB op = false := by unfold argsB; simp; omega
    rw [e1, e2, e3, e4]
    decide
theorem hase_tells {k : Int} (h0 : 0 ≤ k) : ((hasEOf k).a = 3 ↔ k = 2 ∨ k = 3) := by
  by_cases h : k < 4
  · have : k = 0 ∨ k = 1 ∨ k = 2 ∨ k = 3 := by omega
    rcases this with rfl | rfl | rfl | rfl <;> decide
  · rw [hasEOf_over (by omega)]
    constructor
    · intro h; exact absurd h (by decide)
    · omega

/-! which may be -/
/-- below which number what stands in a field is -/
def limL (nt nr nf nb : Int) : List Int := [1, 0, nt, nr, nf, nb, 8]
def toldB (L : List Int) (want n : Int) : Bool := decide (want = 1) || (decide (0 ≤ n) && decide (n < L.getD want.toNat 0))
def toldV (L : List Int) (want n : Int) : Int := if toldB L want n = true then want else 7
/-- what stands in an instruction's fields -/
def thereOf (L : List Int) (x : Ix) : Has :=
  ⟨toldV L (hasOf x.op).typ x.typ, toldV L (hasOf x.op).a x.a, toldV L (hasOf x.op).b x.b, toldV L (hasOf x.op).n x.n, min (hasOf x.op).least x.args.length, max (hasOf x.op).most x.args.length, (hasOf x.op).per⟩
def mayI (L : List Int) (x : Ix) : Bool :=
  if hasOf x.op = has0 ∨ thereOf L x ≠ hasOf x.op ∨ (x.frm.length : Int) ≠ (hasOf x.op).per * x.args.length then false
  else lowB (L.getD 3 0) x.args && lowB (L.getD 5 0) x.frm
def thereE (L : List Int) (x : Ex) : HasE := ⟨toldV L (hasEOf x.kind).a x.a, toldV L (hasEOf x.kind).to x.to, toldV L (hasEOf x.kind).els x.els⟩
def mayE (L : List Int) (x : Ex) : Bool := decide (hasEOf x.kind ≠ hasE0) && decide (thereE L x = hasEOf x.kind)
def mayBl (L : List Int) (b : Bx) : Bool := mayE L b.en && b.ins.all (mayI L)

/-! the same, by the document's words -/
def mayNR (nf : Int) (x : Ix) : Bool :=
  if x.op = 1 then true else if x.op = 3 ∨ x.op = 18 then decide (0 ≤ x.n ∧ x.n < nf) else if x.op = 14 then decide (0 ≤ x.n ∧ x.n < 8) else decide (x.n = 0)
def mayIR (nt nr nf nb : Int) (x : Ix) : Bool :=
  if x.op < 1 ∨ 22 < x.op ∨ lowB nr (usesOf x) = false ∨ mayNR nf x = false then false
  else if (hasAB x.op = false ∧ x.a ≠ 0) ∨ (twoB x.op = false ∧ x.b ≠ 0) ∨ (argsB x.op = false ∧ 0 < x.args.length) then false
  else if (answersB x.op = true ∧ (x.typ < 0 ∨ nt ≤ x.typ)) ∨ (answersB x.op = false ∧ x.typ ≠ 0) then false
  else if x.op = 22 then decide (x.frm.length = x.args.length ∧ 1 ≤ x.frm.length ∧ x.frm.length ≤ 16) && lowB nb x.frm
  else decide (x.frm.length = 0 ∧ x.args.length ≤ 4)
def mayER (nr nb : Int) (x : Ex) : Bool :=
  if x.kind = 1 then decide (x.a = 0 ∧ x.els = 0) && lowB nb [x.to]
  else if x.kind = 2 then lowB nr [x.a] && lowB nb [x.to, x.els]
  else if x.kind = 3 then decide (x.to = 0 ∧ x.els = 0) && lowB nr [x.a]
  else false
end Go.Proofs.YtaegidmodenomaaDoor.ShM
