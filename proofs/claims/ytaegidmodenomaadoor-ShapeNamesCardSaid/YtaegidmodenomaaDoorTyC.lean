/- Walks over types.below and types.scalars. -/
import Derived.Test.YtaegidmodenomaaDoorTyB
namespace Go.Proofs.YtaegidmodenomaaDoor.TyC
open Go.RowKit Go.Lib SetP IntO TyM TyP TyB

theorem below1_calls (x m : Int) (b : Nat) (w : World) (hc : w.cell? ⟨b, 0, none⟩ = some (.int .i64 m)) :
    Calls Tryd.prog 101 #[.int .i64 x, .pointer (some ⟨b, 0, none⟩)] w (BoolR (!decide (0 ≤ x ∧ x < m)) w) := by
  by_cases h0 : x < 0
  · have hd : decide (0 ≤ x ∧ x < m) = false := by simp; omega
    rw [hd]
    go_enter Tryd.func101, Tryd.ntmps101
    go_wp2
    go_ret
    exact ⟨rfl, Below.refl _ _⟩
  · by_cases h1 : m ≤ x
    · have hd : decide (0 ≤ x ∧ x < m) = false := by simp; omega
      rw [hd]
      go_enter Tryd.func101, Tryd.ntmps101
      go_wp2
      go_ret
      exact ⟨rfl, Below.refl _ _⟩
    · have hd : decide (0 ≤ x ∧ x < m) = true := by simp; omega
      rw [hd]
      go_enter Tryd.func101, Tryd.ntmps101
      go_wp2
      go_ret
      exact ⟨rfl, Below.refl _ _⟩

theorem low_not (m : Int) (l : List Int) : (!l.any fun x => !decide (0 ≤ x ∧ x < m)) = lowB m l := by
  unfold lowB
  simp [List.any_eq_not_all_not]

theorem below_calls (m : Int) (v : Value) (l : List Int) (w : World) (hl : IntsAt w v l) :
    Calls Tryd.prog 89 #[.int .i64 m, v] w (BoolR (lowB m l) w) := by
  have hb0 : Below w.heap.size w (w.alloc (.cells #[.int .i64 m] 3)) := (Below.refl _ _).alloc (Nat.le_refl _) _
  have HC := hid (contains_calls 101 (enters_of Tryd.func101 (by kernel_rfl) rfl) w.heap.size (fun x => !decide (0 ≤ x ∧ x < m)) v l _ (hl.below hb0)
    (fun x _ wx hbx => below1_calls x m w.heap.size wx ((hbx.cell (p := ⟨w.heap.size, 0, none⟩) (by simp)).trans (by simp))))
  rw [← low_not]
  generalize l.any (fun x => !decide (0 ≤ x ∧ x < m)) = b at *
  clear hl
  cases b <;>
  · go_enter Tryd.func89, Tryd.ntmps89
    go_wp2_with fail
    refine HC.out.mono ?_
    rintro e w1 ⟨rfl, hb1⟩
    have hbe := hb0.trans (hb1.mono hb0.size)
    clear hb1
    go_wp2
    go_ret
    exact ⟨rfl, hbe⟩

/-- a type's value, in a table -/
theorem scalars1_calls (t : List Ty) (v : Value) (x : Int) (b : Nat) (w : World) (hc : w.cell? ⟨b, 0, none⟩ = some v) (ht : TysAt w v t) (h0 : 0 ≤ x) (h1 : x < t.length) :
    Calls Tryd.prog 102 #[.int .i64 x, .pointer (some ⟨b, 0, none⟩)] w (BoolR (!plainB t x) w) := by
  obtain ⟨k, rfl⟩ : ∃ k : Nat, x = k := ⟨x.toNat, by omega⟩
  have hk : k < t.length := by omega
  rw [plainB_at (List.getElem?_eq_getElem hk)]
  obtain ⟨ao, cap, rfl⟩ := ht.slice
  obtain ⟨tb, off, rfl, hlt, pv, c0, c1, c2, c3, hp⟩ := ht.at k hk
  have HC := hid (scalar_calls t[k] pv w)
  clear ht hp h1
  generalize t[k] = y at *
  generalize t.length = n at *
  cases hs : scalarK y.kind <;>
  · rw [hs] at HC
    clear hs
    go_enter Tryd.func102, Tryd.ntmps102
    go_wp2_with fail
    refine HC.out.mono ?_
    rintro e w1 ⟨rfl, hb1⟩
    go_wp2
    go_ret
    exact ⟨rfl, hb1⟩

theorem plains_not (t : List Ty) (l : List Int) : (!l.any fun x => !plainB t x) = plainsB t l := by
  unfold plainsB
  simp [List.any_eq_not_all_not]

set_option maxHeartbeats 400000 in
theorem scalars_calls (t : List Ty) (v va : Value) (l : List Int) (w : World) (ht : TysAt w v t) (hl : IntsAt w va l) :
    Calls Tryd.prog 90 #[v, va] w (BoolR (plainsB t l) w) := by
  have hb0 : Below w.heap.size w (w.alloc (.cells #[v] 26)) := (Below.refl _ _).alloc (Nat.le_refl _) _
  have HB := hid (below_calls t.length va l _ (hl.below hb0))
  obtain ⟨ao, cap, rfl⟩ := ht.slice
  have HT := hid ht
  have HL := hid hl
  cases hlow : lowB t.length l with
  | false =>
    rw [hlow] at HB
    have hpl : plainsB t l = false := by
      cases hp : plainsB t l with
      | false => rfl
      | true => rw [plainsB_low hp] at hlow; cases hlow
    rw [hpl]
    clear hlow hpl ht hl
    generalize t.length = n at *
    go_enter Tryd.func90, Tryd.ntmps90
    go_wp2_with fail
    refine HB.out.mono ?_
    rintro e w1 ⟨rfl, hb1⟩
    have hbe := hb0.trans (hb1.mono hb0.size)
    clear hb1
    go_wp2
    go_ret
    exact ⟨rfl, hbe⟩
  | true =>
    rw [hlow] at HB
    have HIN := hid (lowB_iff.1 hlow)
    have HC := hid (fun w1 (hb1 : Below (w.alloc (.cells #[Value.slice ao t.length cap] 26)).heap.size (w.alloc (.cells #[Value.slice ao t.length cap] 26)) w1) =>
      contains_calls 102 (enters_of Tryd.func102 (by kernel_rfl) rfl) w.heap.size (fun x => !plainB t x) va l w1 ((HL.out.below hb0).below hb1)
        (fun x hx wx hbx => scalars1_calls t (.slice ao t.length cap) x w.heap.size wx
          ((hbx.cell (p := ⟨w.heap.size, 0, none⟩) (Nat.lt_of_lt_of_le (by simp) hb1.size)).trans ((hb1.cell (p := ⟨w.heap.size, 0, none⟩) (by simp)).trans (by simp)))
          (((HT.out.below hb0).below hb1).below hbx) (HIN.out x hx).1 (HIN.out x hx).2))
    rw [← plains_not]
    clear hlow ht hl HIN
    generalize l.any (fun x => !plainB t x) = b at *
    clear HT
    generalize t.length = n at *
    cases b <;>
    · go_enter Tryd.func90, Tryd.ntmps90
      go_wp2_with fail
      refine HB.out.mono ?_
      rintro e w1 ⟨rfl, hb1⟩
      have HC1 := hid (HC.out w1 hb1)
      have hbe := hb0.trans (hb1.mono hb0.size)
      clear hb1
      go_wp2_with fail
      refine HC1.out.mono ?_
      rintro e w2 ⟨rfl, hb2⟩
      have hbe2 := hbe.trans (hb2.mono hbe.size)
      clear hb2 hbe
      go_wp2
      go_ret
      exact ⟨rfl, hbe2⟩
end Go.Proofs.YtaegidmodenomaaDoor.TyC
