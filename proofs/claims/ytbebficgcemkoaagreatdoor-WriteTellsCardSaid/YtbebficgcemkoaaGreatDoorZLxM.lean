/- Plain facts on lines of words: what a text's lines are, by a machine of bytes and by cuts; their text, there and back. No program in this text. -/
import Derived.Lib.Join
namespace Go.Proofs.YtbebficgcemkoaaGreatDoor.LxM
open Go.Lib

abbrev Word := List UInt8
/-- what a byte is: 0 of a word, 1 a blank, 2 a line feed, 3 a # -/
def kindB (c : UInt8) : Nat := if c.toNat = 10 then 2 else if c.toNat = 35 then 3 else if c.toNat = 32 ∨ c.toNat = 9 ∨ c.toNat = 13 then 1 else 0
theorem kind_feed {c : UInt8} : kindB c = 2 ↔ c.toNat = 10 := by
 unfold kindB
 (repeat' split) <;> (constructor <;> intro h <;> omega)
theorem kind_hash {c : UInt8} : kindB c = 3 ↔ c.toNat = 35 := by
 unfold kindB
 (repeat' split) <;> (constructor <;> intro h <;> omega)
theorem kind_blank {c : UInt8} : kindB c = 1 ↔ c.toNat = 32 ∨ c.toNat = 9 ∨ c.toNat = 13 := by
 unfold kindB
 (repeat' split) <;> (constructor <;> intro h <;> omega)
theorem kind_le (c : UInt8) : kindB c ≤ 3 := by
 unfold kindB
 (repeat' split) <;> omega

def push (ws : List Word) (cur : Word) : List Word := if cur = [] then ws else ws ++ [cur]
theorem push_nil (ws : List Word) : push ws [] = ws := if_pos rfl
theorem push_ne {ws : List Word} {cur : Word} (h : cur ≠ []) : push ws cur = ws ++ [cur] := if_neg h
/-- within a line: the words so far, the one that is open, and whether a # was met -/
abbrev LSt := List Word × Word × Bool
def wstep (st : LSt) (c : UInt8) : LSt :=
 if st.2.2 = true then st else if kindB c = 3 then (push st.1 st.2.1, [], true) else if kindB c = 1 then (push st.1 st.2.1, [], false) else (st.1, st.2.1 ++ [c], false)
theorem wstep_hash {st : LSt} {c : UInt8} (h : st.2.2 = true) : wstep st c = st := if_pos h
theorem wstep_at {a : List Word} {b : Word} {c : UInt8} (h : kindB c = 3) : wstep (a, b, false) c = (push a b, [], true) := by unfold wstep; simp [h]
theorem wstep_word {a : List Word} {b : Word} {c : UInt8} (h3 : kindB c ≠ 3) (h1 : kindB c ≠ 1) : wstep (a, b, false) c = (a, b ++ [c], false) := by unfold wstep; simp [h3, h1]
def w0 : LSt := ([], [], false)
/-- the lines that are done, and what is within the one that is open -/
abbrev MSt := List (List Word) × LSt
def mstep (st : MSt) (c : UInt8) : MSt := if kindB c = 2 then (st.1 ++ [push st.2.1 st.2.2.1], w0) else (st.1, wstep st.2 c)
theorem mstep_in {st : MSt} {c : UInt8} (h : kindB c ≠ 2) : mstep st c = (st.1, wstep st.2 c) := if_neg h
def runB (s : List UInt8) : MSt := s.foldl mstep ([], w0)
def fin (st : MSt) : List (List Word) := st.1 ++ [push st.2.1 st.2.2.1]
def allW (s : List UInt8) : List (List Word) := fin (runB s)
theorem runB_append (a b : List UInt8) : runB (a ++ b) = b.foldl mstep (runB a) := List.foldl_append
theorem runB_snoc (a : List UInt8) (c : UInt8) : runB (a ++ [c]) = mstep (runB a) c := by rw [runB_append]; rfl

/-- ErrMany 4, or 0 -/
def lnE (s : List UInt8) : Int := if 16384 < s.length ∨ ∃ x ∈ allW s, 64 < x.length then 4 else 0
def full (x : List Word) : Bool := !x.isEmpty
def lnT (s : List UInt8) : List (List Word) := if lnE s = 0 then (allW s).filter full else []
theorem lnE_ok {s : List UInt8} (h1 : s.length ≤ 16384) (h2 : ∀ x ∈ allW s, x.length ≤ 64) : lnE s = 0 := if_neg fun h => by
 rcases h with h | ⟨x, hx, h⟩
 ·omega
 ·have := h2 x hx; omega
theorem lnT_ok {s : List UInt8} (h : lnE s = 0) : lnT s = (allW s).filter full := if_pos h
theorem lnT_no {s : List UInt8} (h : lnE s = 4) : lnT s = [] := if_neg (by omega)

/-! what the walk of Lines knows at a place -/
/-! cuts -/
/-! words that may be -/
def mayB (w : Word) : Bool := !w.isEmpty && w.all fun c => decide (kindB c = 0)
theorem mayB_iff {w : Word} : mayB w = true ↔ w ≠ [] ∧ ∀ c ∈ w, kindB c = 0 := by
 unfold mayB
 simp [List.all_eq_true]
def oddL (x : List Word) : Bool := x.isEmpty || x.any fun w => !mayB w
theorem oddL_false {x : List Word} : oddL x = false ↔ x ≠ [] ∧ ∀ w ∈ x, mayB w = true := by
 unfold oddL
 simp [List.any_eq_false]
def szL (x : List Word) : Nat := (x.map fun w => w.length + 1).sum
def szT (l : List (List Word)) : Nat := (l.map szL).sum
theorem szL_append (a b : List Word) : szL (a ++ b) = szL a + szL b := by unfold szL; simp
theorem szT_append (a b : List (List Word)) : szT (a ++ b) = szT a + szT b := by unfold szT; simp
theorem szL_one (w : Word) : szL [w] = w.length + 1 := by simp [szL]
theorem szT_one (x : List Word) : szT [x] = szL x := by simp [szT]
def lineT (x : List Word) : List UInt8 := join x [32] ++ [10]
def textT (l : List (List Word)) : List UInt8 := l.flatMap lineT
theorem textT_append (a b : List (List Word)) : textT (a ++ b) = textT a ++ textT b := by simp [textT]
theorem textT_one (x : List Word) : textT [x] = lineT x := by simp [textT]
theorem lens_sz (r : List Word) : lens r + r.length = szL r := by
 induction r with
 | nil => rfl
 | cons w r ih =>
  have e1 : lens (w :: r) = w.length + lens r := by simp [lens]
  have e2 : szL (w :: r) = w.length + 1 + szL r := by simp [szL]
  rw [e1, e2, List.length_cons]; omega
theorem lineT_length {x : List Word} (h : x ≠ []) : (lineT x).length = szL x := by
 cases x with
 | nil => exact absurd rfl h
 | cons w r =>
  have := lens_sz (w :: r)
  unfold lineT
  rw [List.length_append, join_length, ← this]
  simp; omega
theorem textT_length {l : List (List Word)} (h : ∀ x ∈ l, x ≠ []) : (textT l).length = szT l := by
 induction l with
 | nil => rfl
 | cons x l ih =>
  have e1 : textT (x :: l) = lineT x ++ textT l := by simp [textT]
  have e2 : szT (x :: l) = szL x + szT l := by simp [szT]
  rw [e1, e2, List.length_append, lineT_length (h x (by simp)), ih fun y hy => h y (by simp [hy])]
theorem szT_take_le (l : List (List Word)) (k : Nat) : szT (l.take k) ≤ szT l := by
 have := szT_append (l.take k) (l.drop k)
 rw [List.take_append_drop] at this
 omega
theorem szL_take_le (l : List Word) (k : Nat) : szL (l.take k) ≤ szL l := by
 have := szL_append (l.take k) (l.drop k)
 rw [List.take_append_drop] at this
 omega

/-- Join's error -/
def jnE (l : List (List Word)) : Int := if l.any oddL = true then 2 else if (∃ x ∈ l, 64 < x.length) ∨ 16384 < szT l then 4 else 0
def jnT (l : List (List Word)) : List UInt8 := if jnE l = 0 then textT l else []
theorem jnE_odd {l : List (List Word)} (h : l.any oddL = true) : jnE l = 2 := if_pos h
theorem jnE_many {l : List (List Word)} (h : l.any oddL = false) (h2 : (∃ x ∈ l, 64 < x.length) ∨ 16384 < szT l) : jnE l = 4 := by unfold jnE; rw [if_neg (by simp [h]), if_pos h2]
theorem jnE_ok {l : List (List Word)} (h : l.any oddL = false) (h2 : ∀ x ∈ l, x.length ≤ 64) (h3 : szT l ≤ 16384) : jnE l = 0 := by
 unfold jnE
 rw [if_neg (by simp [h]), if_neg]
 rintro (⟨x, hx, h⟩ | h)
 ·have := h2 x hx; omega
 ·omega
theorem jnT_ok {l : List (List Word)} (h : jnE l = 0) : jnT l = textT l := if_pos h
theorem jnT_no {l : List (List Word)} (h : jnE l ≠ 0) : jnT l = [] := if_neg h

/-! there and back -/
/-! what counts for nothing -/
end Go.Proofs.YtbebficgcemkoaaGreatDoor.LxM
