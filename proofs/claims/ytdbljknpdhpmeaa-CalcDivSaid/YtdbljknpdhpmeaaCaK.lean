/- What is asked of the package calc: values, and its functions' contracts, as propositions. -/
import Derived.Test.YtdbljknpdhpmeaaCaM
import Derived.Test.YtdbljknpdhpmeaaSetP
namespace Go.Proofs.Ytdbljknpdhpmeaa.CaK
open Go.RowKit Go.Lib CaM

/-- a value -/
structure Vx where
  kind : Int
  n : Int
  block : Int
  at_ : Int
deriving DecidableEq
def valV (x : Vx) : Value := .agg #[.int .u8 x.kind, .int .i64 x.n, .int .i64 x.block, .int .i64 x.at_]
def VxOk (x : Vx) : Prop := (0 ≤ x.kind ∧ x.kind ≤ 255) ∧ NumP.I64 x.n ∧ NumP.I64 x.block ∧ NumP.I64 x.at_
/-- may a value be? -/
def mayV (x : Vx) : Bool :=
  if x.kind = 1 then decide (x.block = 0) && decide (x.at_ = 0)
  else if x.kind = 2 then decide (x.n = 0) && (decide (x.block = 0) && decide (x.at_ = 0) || decide (0 < x.block) && decide (0 ≤ x.at_))
  else if x.kind = 3 then decide (x.block = 0) && (decide (x.at_ = 0) && (decide (0 ≤ x.n) && decide (x.n ≤ 8)))
  else false
def chkV (x : Vx) : Int := if mayV x = true then 0 else 8
def firstE (k : Int) : Int := if 1 ≤ k ∧ k ≤ 3 then 0 else 2
def firstV (k : Int) : Vx := if 1 ≤ k ∧ k ≤ 3 then ⟨k, 0, 0, 0⟩ else ⟨0, 0, 0, 0⟩
def fitsV (x : Vx) (k : Int) : Bool := mayV x && decide (x.kind = k)
/-- answers -/
def DoR (n er : Int) (w : World) (e : Ending) (w' : World) : Prop := e = .returned (.tuple #[.int .i64 n, .int .i64 er]) ∧ Below w.heap.size w w'
def ErrR (er : Int) (w : World) (e : Ending) (w' : World) : Prop := e = .returned (.int .i64 er) ∧ Below w.heap.size w w'
def TestR (b : Bool) (w : World) (e : Ending) (w' : World) : Prop := e = .returned (.bool b) ∧ Below w.heap.size w w'
def ValE (x : Vx) (er : Int) (w : World) (e : Ending) (w' : World) : Prop := e = .returned (.tuple #[valV x, .int .i64 er]) ∧ Below w.heap.size w w'
def DoC : Prop := ∀ (op a b : Int) (w : World), 0 ≤ op → op ≤ 255 → NumP.I64 a → NumP.I64 b →
  Calls Try.prog 9 #[.int .u8 op, .int .i64 a, .int .i64 b] w (DoR (doO op a b).1 (doO op a b).2 w)
def ChkVC : Prop := ∀ (x : Vx) (w : World), VxOk x → Calls Try.prog 11 #[valV x] w (ErrR (chkV x) w)
def FirstC : Prop := ∀ (k : Int) (w : World), 0 ≤ k → k ≤ 255 → Calls Try.prog 10 #[.int .u8 k] w (ValE (firstV k) (firstE k) w)
def FitsC : Prop := ∀ (x : Vx) (k : Int) (w : World), VxOk x → 0 ≤ k → k ≤ 255 → Calls Try.prog 14 #[valV x, .int .u8 k] w (TestR (fitsV x k) w)
end Go.Proofs.Ytdbljknpdhpmeaa.CaK
