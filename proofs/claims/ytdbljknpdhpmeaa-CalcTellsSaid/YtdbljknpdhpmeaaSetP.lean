/- Plain facts on sets by words of bits; and how a set lies in memory. -/
import Derived.Test.YtdbljknpdhpmeaaRows
import Derived.WalkKit
import Derived.WalkSmall
import Derived.WalkSpells
import Derived.WalkLawsBesides
import Derived.Outline
import Derived.Lib.Hide
import Derived.Deep.QuietTactic
import Derived.BigQuiet
namespace Go.Proofs.Ytdbljknpdhpmeaa.SetP
open Go.RowKit Go.Lib

theorem quiet_eq {P : Program} {f : FuncId} {args : Array Value} {w : World} {n : Nat} {v : Value}
    (h : Calls P f args (w.drewN n) fun e w' => e = .returned v ∧ w.drewN n = w') : Calls P f args (w.drewN n) fun e w'' => e = .returned v ∧ ∃ m, w'' = w.drewN m :=
  h.mono fun _ _ ⟨he, hm⟩ => ⟨he, n, hm.symm⟩
theorem quiet_draws {P : Program} {f : FuncId} {args : Array Value} {w : World} {n : Nat} {v : Value}
    (h : Calls P f args (w.drewN n) fun e w' => e = .returned v ∧ ∃ m, w' = (w.drewN n).drewN m) : Calls P f args (w.drewN n) fun e w'' => e = .returned v ∧ ∃ m, w'' = w.drewN m :=
  Calls.quiet_of h

/-- a word: its place, and its bits -/
abbrev Wd := Int × Int

/-- a slice of words that lies in memory: its value, and its words -/
def SetAt (w : World) (v : Value) (s : List Wd) : Prop :=
  ∃ ao cap, v = .slice ao s.length cap ∧ s.length ≤ 9223372036854775807 ∧
    (0 < s.length → ∃ b off, ao = some ⟨b, off, none⟩ ∧ b < w.heap.size ∧ ∀ i (h : i < s.length), w.cell? ⟨b, off + i * 2, none⟩ = some (.int .i64 s[i].1) ∧ w.cell? ⟨b, off + i * 2 + 1, none⟩ = some (.int .u64 s[i].2)) ∧ (ao = none → cap = 0) ∧ s.length ≤ cap

theorem SetAt.below {w w' : World} {v : Value} {s : List Wd} (h : SetAt w v s) (hb : Below w.heap.size w w') : SetAt w' v s := by
  obtain ⟨ao, cap, hv, hl, hm, hz⟩ := h
  refine ⟨ao, cap, hv, hl, fun h0 => ?_, hz⟩
  obtain ⟨b, off, ha, hlt, hc⟩ := hm h0
  refine ⟨b, off, ha, Nat.lt_of_lt_of_le hlt hb.size, fun i hi => ?_⟩
  exact ⟨(hb.cell (p := ⟨b, _, none⟩) hlt).trans (hc i hi).1, (hb.cell (p := ⟨b, _, none⟩) hlt).trans (hc i hi).2⟩

/-- a word's kinds -/
def WdOk (x : Wd) : Prop := -9223372036854775808 ≤ x.1 ∧ x.1 ≤ 9223372036854775807 ∧ 0 ≤ x.2 ∧ x.2 ≤ 18446744073709551615

/-- a slice of ints that lies in memory: its value, and its numbers -/
def IntsAt (w : World) (v : Value) (l : List Int) : Prop :=
  ∃ ao cap, v = .slice ao l.length cap ∧ l.length ≤ 9223372036854775807 ∧
    (0 < l.length → ∃ b off, ao = some ⟨b, off, none⟩ ∧ b < w.heap.size ∧ ∀ i (h : i < l.length), w.cell? ⟨b, off + i, none⟩ = some (.int .i64 l[i])) ∧ (ao = none → cap = 0) ∧ l.length ≤ cap
theorem IntsAt.below {w w' : World} {v : Value} {s : List Int} (h : IntsAt w v s) (hb : Below w.heap.size w w') : IntsAt w' v s := by
  obtain ⟨ao, cap, hv, hl, hm, hz⟩ := h
  refine ⟨ao, cap, hv, hl, fun h0 => ?_, hz⟩
  obtain ⟨b, off, ha, hlt, hc⟩ := hm h0
  refine ⟨b, off, ha, Nat.lt_of_lt_of_le hlt hb.size, fun i hi => ?_⟩
  exact (hb.cell (p := ⟨b, _, none⟩) hlt).trans (hc i hi)

/-- two lists are one just if they are as long, and alike at each place -/
theorem eq_upto {α : Type} {s t : List α} (hl : s.length = t.length) : s = t ↔ ∀ i (h : i < s.length) (h2 : i < t.length), s[i] = t[i] :=
  ⟨fun e i h h2 => by subst e; rfl, fun h => List.ext_getElem hl h⟩
end Go.Proofs.Ytdbljknpdhpmeaa.SetP
