/- What an append leaves alone: all blocks but the row that it had; and where the new row lies. -/
import Derived.Test.YtbebficgcemkoaaGreatDoorZIntOToAft
import Derived.RangeFuncBox
import Derived.Shelf.Abstract
namespace Go.Proofs.YtbebficgcemkoaaGreatDoor.Fresh
open Go.RowKit Go.Lib SetP IntO

/-- where the new row lies: where the old one did, or behind all -/
def NewRow (w : World) (v v' : Value) : Prop := v'.ownBlock = v.ownBlock ∨ ∃ g, v'.ownBlock = some g ∧ w.heap.size ≤ g

/-- all old blocks but a box and a row -/
def Keeps2 (bl : Nat) (u : Value) (w w' : World) : Prop := w.heap.size ≤ w'.heap.size ∧ ∀ j, j < w.heap.size → j ≠ bl → u.ownBlock ≠ some j → w'.heap[j]? = w.heap[j]?
theorem Keeps2.refl (bl : Nat) (u : Value) (w : World) : Keeps2 bl u w w := ⟨Nat.le_refl _, fun _ _ _ _ => rfl⟩
theorem NewRow.refl (w : World) (v : Value) : NewRow w v v := .inl rfl
theorem Keeps2.trans {bl : Nat} {u u1 : Value} {w w1 w2 : World} (h : Keeps2 bl u w w1) (hr : NewRow w u u1) (h2 : Keeps2 bl u1 w1 w2) : Keeps2 bl u w w2 := by
 refine ⟨Nat.le_trans h.1 h2.1, fun j hj hb hu => ?_⟩
 rw [h2.2 j (Nat.lt_of_lt_of_le hj h.1) hb ?_, h.2 j hj hb hu]
 rcases hr with hr | ⟨g, hr, hg⟩
 ·rw [hr]; exact hu
 ·rw [hr]; intro e; cases e; omega
theorem NewRow.trans {w w1 : World} {u u1 u2 : Value} (h : NewRow w u u1) (hw : w.heap.size ≤ w1.heap.size) (h2 : NewRow w1 u1 u2) : NewRow w u u2 := by
 rcases h2 with h2 | ⟨g, h2, hg⟩
 ·rcases h with h | ⟨g, h, hg⟩
  ·exact .inl (h2.trans h)
  ·exact .inr ⟨g, h2.trans h, hg⟩
 ·exact .inr ⟨g, h2, by omega⟩
theorem Keeps2.below {bl : Nat} {u : Value} {w w' : World} (h : Below w.heap.size w w') : Keeps2 bl u w w' := ⟨h.size, fun j hj _ _ => h.block j hj⟩
/-- an append, and the store into the box behind it -/
theorem Keeps2.append {bl : Nat} {u v' : Value} {w w1 : World} {tmp : Obj} (h : (w.alloc tmp).grownBy w1 u.ownBlock) : Keeps2 bl u w (w1.setCell ⟨bl, 0, none⟩ v') := by
 have hs : w.heap.size + 1 ≤ w1.heap.size := by have := h.size; simpa using this
 refine ⟨by simp [World.setCell]; omega, fun j hj hb hu => ?_⟩
 rw [Below.heap_setCell w1 ⟨bl, 0, none⟩ v' j hb, h.block j (by simp; omega) (fun e => hu e.symm), Below.heap_alloc _ _ _ hj]
theorem NewRow.alloc {w : World} {tmp : Obj} {u v' : Value} (h : NewRow (w.alloc tmp) u v') : NewRow w u v' := by
 rcases h with h | ⟨g, h, hg⟩
 ·exact .inl h
 ·exact .inr ⟨g, h, by have : w.heap.size + 1 ≤ g := by simpa using hg
                       omega⟩
/-- a list whose block is apart from a box and a row -/
def Away (bl : Nat) (u : Value) (w : World) (v : Value) : Prop := ∀ g off n c, v = .slice (some ⟨g, off, none⟩) n c → 0 < n → g < w.heap.size ∧ g ≠ bl ∧ u.ownBlock ≠ some g
theorem Away.ints {bl : Nat} {u v : Value} {w w1 : World} {l : List Int} (h : Away bl u w v) (hk : Keeps2 bl u w w1) (hi : IntsAt w v l) : IntsAt w1 v l := by
 obtain ⟨ao, cap, rfl, hl, hm, hz⟩ := hi
 refine ⟨ao, cap, rfl, hl, fun h0 => ?_, hz⟩
 obtain ⟨b, off, rfl, hlt, hc⟩ := hm h0
 obtain ⟨h1, h2, h3⟩ := h b off _ _ rfl h0
 refine ⟨b, off, rfl, Nat.lt_of_lt_of_le hlt hk.1, fun i hi => ?_⟩
 have hcell := hc i hi
 unfold World.cell? at hcell ⊢
 rw [hk.2 b hlt h2 h3]
 exact hcell
end Go.Proofs.YtbebficgcemkoaaGreatDoor.Fresh
