/- Walks over lex.kind, lex.kindAt and strings.Clone. -/
import Derived.Test.YtfnibkepkomcdaaDoorLxM
import Derived.Test.YtfnibkepkomcdaaDoorLxP
import Derived.Test.YtfnibkepkomcdaaDoorShelf
namespace Go.Proofs.YtfnibkepkomcdaaDoor.LxK
open Go.RowKit Go.Lib LxM LxP

/-- the program's table, as its initialiser lays it -/
def kT : List Nat := [0, 0, 0, 0, 0, 0, 0, 0, 0, 1, 2, 0, 0, 1, 0, 0, 0, 0, 0, 0, 0, 0, 0, 0, 0, 0, 0, 0, 0, 0, 0, 0, 1, 0, 0, 3]
def TabK (g : Nat) (tab : List Nat) (w : World) : Prop := ∀ j, j < tab.length → w.cell? ⟨g, j, none⟩ = some (.int .u8 (tab.getD j 0))
def Tab (w : World) : Prop := TabK 0 kT w
theorem tab_on {g : Nat} {tab : List Nat} {w w1 : World} (h : TabK g tab w) (hb : Below w.heap.size w w1) : TabK g tab w1 := by
  intro j hj
  have h1 := h j hj
  rw [hb.cell (p := ⟨g, j, none⟩) (World.block_lt_of_cell? w _ h1)]
  exact h1
theorem Tab.on {w w1 : World} (h : Tab w) (hb : Below w.heap.size w w1) : Tab w1 := tab_on h hb
theorem kT_at : ∀ n : Fin 36, kT.getD n.val 0 = kindB (UInt8.ofNat n.val) := by decide
theorem kind_tab (c : UInt8) (h : c.toNat < 36) : kT.getD c.toNat 0 = kindB c := by
  have := kT_at ⟨c.toNat, h⟩
  simpa using this
theorem kind_over (c : UInt8) (h : ¬ c.toNat < 36) : kindB c = 0 := by
  have := kind_le c
  have h1 : kindB c ≠ 1 := fun e => by have := kind_blank.1 e; omega
  have h2 : kindB c ≠ 2 := fun e => by have := kind_feed.1 e; omega
  have h3 : kindB c ≠ 3 := fun e => by have := kind_hash.1 e; omega
  omega

theorem kind_core (n k : Nat) (w : World) (hn : n < 36) (hcell : w.cell? ⟨0, n, none⟩ = some (.int .u8 k)) :
    Calls Tryd.prog 31 #[.int .i32 n] w fun e w' => e = .returned (.int .u8 k) ∧ w = w' := by
  go_enter Tryd.func31, Tryd.ntmps31
  go_wp2
  go_ret
  exact ⟨rfl, rfl⟩
theorem kind_out (n : Nat) (w : World) (hn : ¬ n < 36) (hm : n ≤ 255) :
    Calls Tryd.prog 31 #[.int .i32 n] w fun e w' => e = .returned (.int .u8 0) ∧ w = w' := by
  go_enter Tryd.func31, Tryd.ntmps31
  go_wp2
  go_ret
  exact ⟨rfl, rfl⟩
theorem u8_le (c : UInt8) : c.toNat ≤ 255 := by have := c.toNat_lt; omega
theorem kind_calls (c : UInt8) (w : World) (ht : Tab w) :
    Calls Tryd.prog 31 #[.int .i32 (c.toNat : Int)] w fun e w' => e = .returned (.int .u8 (kindB c : Nat)) ∧ w = w' := by
  by_cases h : c.toNat < 36
  · have hc := ht c.toNat h
    rw [kind_tab c h] at hc
    exact kind_core _ _ w h hc
  · rw [kind_over c h]
    exact kind_out _ w h (u8_le c)

/-- what the byte at a place is; behind the last one a line feed -/
def kindS (s : ByteArray) (k : Nat) : Nat := if h : k < s.size then kindB s[k] else 2
theorem kindS_in {s : ByteArray} {k : Nat} (h : k < s.size) : kindS s k = kindB s[k] := dif_pos h
theorem kindS_end (s : ByteArray) : kindS s s.size = 2 := dif_neg (by omega)
theorem kindS_le (s : ByteArray) (k : Nat) : kindS s k ≤ 3 := by
  unfold kindS; split
  · exact kind_le _
  · omega
theorem kindAt_calls (s : ByteArray) (k : Nat) (hk : k ≤ s.size) (w : World) (ht : Tab w) :
    Calls Tryd.prog 20 #[.string s, .int .i64 k] w fun e w' => e = .returned (.int .u8 (kindS s k : Nat)) ∧ w = w' := by
  by_cases h : k < s.size
  · rw [kindS_in h]
    have HC := hid (kind_calls s[k] w ht)
    have h255 := u8_le s[k]
    have hne : ((k : Int) == (s.size : Int)) = false := beq_eq_false_iff_ne.2 (by omega)
    clear ht
    go_enter Tryd.func20, Tryd.ntmps20
    go_wp2_with fail
    refine HC.out.mono ?_
    rintro e w1 ⟨rfl, rfl⟩
    go_wp2
    go_ret
    exact ⟨rfl, rfl⟩
  · obtain rfl : k = s.size := by omega
    rw [kindS_end]
    go_enter Tryd.func20, Tryd.ntmps20
    go_wp2
    go_ret
    exact ⟨rfl, rfl⟩

theorem clone_calls (s : ByteArray) (hs : s.size ≤ 281474976710656) (w : World) :
    Calls Tryd.prog 21 #[.string s] w fun e w' => e = .returned (.string s) ∧ Below w.heap.size w w' := by
  have HC := hid (Tryd.stringslite_Clone s w hs)
  go_enter Tryd.func21, Tryd.ntmps21
  go_wp2_with fail
  refine HC.out.mono ?_
  rintro e w1 ⟨rfl, hb⟩
  go_wp2
  go_ret
  exact ⟨rfl, hb⟩
end Go.Proofs.YtfnibkepkomcdaaDoor.LxK
