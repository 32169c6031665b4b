/- Plain facts on sets by words of bits; and how a set lies in memory. What the call's own slices are: as sets and lists of ints in memory. -/
import Derived.Test.YtpejpnffcepdlaaGreatDoorRows
import Derived.WalkKit
import Derived.WalkSmall
import Derived.WalkSpells
import Derived.WalkLawsBesides
import Derived.Outline
import Derived.Lib.Hide
import Derived.Deep.QuietTactic
import Derived.BigQuiet
namespace Go.Proofs.YtpejpnffcepdlaaGreatDoor.SetP
open Go.RowKit Go.Lib

/-- a word: its place, and its bits -/
abbrev Wd := Int × Int

/-- a slice of words that lies in memory: its value, and its words -/
def SetAt (w : World) (v : Value) (s : List Wd) : Prop :=
 ∃ ao cap, v = .slice ao s.length cap ∧ s.length ≤ 9223372036854775807 ∧
  (0 < s.length → ∃ b off, ao = some ⟨b, off, none⟩ ∧ b < w.heap.size ∧ ∀ i (h : i < s.length), w.cell? ⟨b, off + i * 2, none⟩ = some (.int .i64 s[i].1) ∧ w.cell? ⟨b, off + i * 2 + 1, none⟩ = some (.int .u64 s[i].2)) ∧ (ao = none → cap = 0) ∧ s.length ≤ cap

theorem SetAt.below {w w' : World} {v : Value} {s : List Wd} (h : SetAt w v s) (hb : Below w.heap.size w w') : SetAt w' v s := by
 obtain ⟨ao, cap, hv, hl, hm, hz⟩ := h
 refine ⟨ao, cap, hv, hl, fun h0 => ?_, hz⟩
 obtain ⟨b, off, ha, hlt, hc⟩ := hm h0
 refine ⟨b, off, ha, Nat.lt_of_lt_of_le hlt hb.size, fun i hi => ?_⟩
 exact ⟨(hb.cell (p := ⟨b, _, none⟩) hlt).trans (hc i hi).1, (hb.cell (p := ⟨b, _, none⟩) hlt).trans (hc i hi).2⟩

/-- a word's kinds -/
def WdOk (x : Wd) : Prop := -9223372036854775808 ≤ x.1 ∧ x.1 ≤ 9223372036854775807 ∧ 0 ≤ x.2 ∧ x.2 ≤ 18446744073709551615

/-- a slice of ints that lies in memory: its value, and its numbers -/
def IntsAt (w : World) (v : Value) (l : List Int) : Prop :=
 ∃ ao cap, v = .slice ao l.length cap ∧ l.length ≤ 9223372036854775807 ∧
  (0 < l.length → ∃ b off, ao = some ⟨b, off, none⟩ ∧ b < w.heap.size ∧ ∀ i (h : i < l.length), w.cell? ⟨b, off + i, none⟩ = some (.int .i64 l[i])) ∧ (ao = none → cap = 0) ∧ l.length ≤ cap
theorem IntsAt.below {w w' : World} {v : Value} {s : List Int} (h : IntsAt w v s) (hb : Below w.heap.size w w') : IntsAt w' v s := by
 obtain ⟨ao, cap, hv, hl, hm, hz⟩ := h
 refine ⟨ao, cap, hv, hl, fun h0 => ?_, hz⟩
 obtain ⟨b, off, ha, hlt, hc⟩ := hm h0
 refine ⟨b, off, ha, Nat.lt_of_lt_of_le hlt hb.size, fun i hi => ?_⟩
 exact (hb.cell (p := ⟨b, _, none⟩) hlt).trans (hc i hi)

end Go.Proofs.YtpejpnffcepdlaaGreatDoor.SetP
namespace Go.Proofs.YtpejpnffcepdlaaGreatDoor.SetO
open Go.RowKit Go.Lib SetP

def intVals (l : List Int) : List Value := l.map (Value.int .i64)
def wdVals (s : List Wd) : List Value := s.flatMap fun x => [.int .i64 x.1, .int .u64 x.2]
theorem intVals_length (l : List Int) : (intVals l).length = l.length := by simp [intVals]
theorem wdVals_length : ∀ (s : List Wd), (wdVals s).length = s.length * 2
 | [] => rfl
 | x :: s => by
  have := wdVals_length s
  simp only [wdVals, List.flatMap_cons, List.length_append, List.length_cons, List.length_nil] at this ⊢
  omega
theorem wdVals_append (s t : List Wd) : wdVals (s ++ t) = wdVals s ++ wdVals t := by simp [wdVals]
theorem wdVals_at : ∀ (s : List Wd) (i : Nat) (h : i < s.length), (wdVals s)[i * 2]? = some (.int .i64 s[i].1) ∧ (wdVals s)[i * 2 + 1]? = some (.int .u64 s[i].2)
 | x :: s, 0, _ => by simp [wdVals]
 | x :: s, i + 1, h => by
  have ih := wdVals_at s i (by simpa using h)
  simp only [wdVals, List.flatMap_cons, List.cons_append, List.nil_append] at ih ⊢
  rw [show (i + 1) * 2 = i * 2 + 1 + 1 by omega, List.getElem?_cons_succ, List.getElem?_cons_succ, List.getElem?_cons_succ, List.getElem?_cons_succ]
  simpa using ih

theorem intsAt_of_owns {w : World} {B : Nat} {e : TypeId} {v : Value} {n : Nat} {l : List Int} (h : w.ownsRow B e 1 v n (intVals l)) (hl : l.length ≤ 9223372036854775807) : IntsAt w v l := by
 obtain ⟨h1, h2⟩ := h
 rw [intVals_length] at h1
 obtain rfl : n = l.length := by omega
 rcases h2 with ⟨rfl, h0⟩ | ⟨g, cap, cur, rfl, hb, hg, hnc, hcm, hcs, ht⟩
 ·exact ⟨none, 0, by rw [h0], hl, fun h => by omega, fun _ => rfl, by omega⟩
 ·refine ⟨some ⟨g, 0, none⟩, cap, rfl, hl, fun _ => ⟨g, 0, rfl, (Array.getElem?_eq_some_iff.1 hg).1, fun i hi => ?_⟩, (fun h => by cases h), hnc⟩
  unfold World.cell?
  rw [hg]
  have : (intVals l)[i]? = some (.int .i64 l[i]) := by simp [intVals, hi]
  rw [← ht, List.getElem?_take, if_pos (by omega)] at this
  simpa using this

theorem setAt_of_owns {w : World} {B : Nat} {e : TypeId} {v : Value} {n : Nat} {s : List Wd} (h : w.ownsRow B e 2 v n (wdVals s)) (hl : s.length ≤ 9223372036854775807) : SetAt w v s := by
 obtain ⟨h1, h2⟩ := h
 rw [wdVals_length] at h1
 obtain rfl : n = s.length := by omega
 rcases h2 with ⟨rfl, h0⟩ | ⟨g, cap, cur, rfl, hb, hg, hnc, hcm, hcs, ht⟩
 ·exact ⟨none, 0, by rw [h0], hl, fun h => by omega, fun _ => rfl, by omega⟩
 ·refine ⟨some ⟨g, 0, none⟩, cap, rfl, hl, fun _ => ⟨g, 0, rfl, (Array.getElem?_eq_some_iff.1 hg).1, fun i hi => ?_⟩, (fun h => by cases h), hnc⟩
  obtain ⟨e1, e2⟩ := wdVals_at s i hi
  unfold World.cell?
  rw [hg]
  rw [← ht, List.getElem?_take, if_pos (by omega)] at e1
  rw [← ht, List.getElem?_take, if_pos (by omega)] at e2
  exact ⟨by simpa using e1, by simpa using e2⟩

theorem info_int : (Tryz.prog.info? 3).map (fun i => (i.zero, i.size, i.bytes)) = some (some (.int .i64 0), 1, 8) := by kernel_rfl
theorem info_wd : (Tryz.prog.info? 252).map (fun i => (i.zero, i.size, i.bytes)) = some (some (.agg #[.int .i64 0, .int .u64 0]), 2, 16) := by kernel_rfl

end Go.Proofs.YtpejpnffcepdlaaGreatDoor.SetO
