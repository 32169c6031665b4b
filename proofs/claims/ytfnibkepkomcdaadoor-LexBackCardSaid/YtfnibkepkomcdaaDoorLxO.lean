/- Walks over slices.IndexFunc, slices.ContainsFunc and lex.odd: a line that may not be. -/
import Derived.Test.YtfnibkepkomcdaaDoorLxY
namespace Go.Proofs.YtfnibkepkomcdaaDoor.LxO
open Go.RowKit Go.Lib LxM LxP LxK LxJ LxS LxY

def IdxR (b : Bool) (w : World) (e : Ending) (w' : World) : Prop := ∃ i : Int, e = .returned (.int .i64 i) ∧ decide (0 ≤ i) = b ∧ Below w.heap.size w w'
theorem any_no {α : Type} {l : List α} {p : α → Bool} (h : ∀ k (hk : k < l.length), p l[k] = false) : l.any p = false :=
  List.any_eq_false.2 fun x hx => by
    obtain ⟨k, hk, rfl⟩ := List.getElem_of_mem hx
    simp [h k hk]
theorem any_yes {α : Type} {l : List α} {p : α → Bool} {k : Nat} (hk : k < l.length) (h : p l[k] = true) : l.any p = true := List.any_eq_true.2 ⟨_, List.getElem_mem hk, h⟩

/-- the function value that is handed on -/
abbrev fnV (f : FuncId) : Value := .func (.func f) #[] #[]
def badW (x : ByteArray) : Bool := !mayB (un x)

set_option maxHeartbeats 1000000 in
theorem idxS_calls (va : Value) (l : List ByteArray) (w : World) (hl : StrsAt w va l) (hs : ∀ x ∈ l, x.size ≤ 9223372036854775807) (ht : Tab w) :
    Calls Tryd.prog 44 #[va, fnV 35] w (IdxR (l.any badW) w) := by
  have HA := hid hl
  obtain ⟨ao, ac, rfl, hla⟩ := hl.slice
  have HT := hid ht
  have HSZ := hid hs
  have HNO := hid (any_no (l := l) (p := badW))
  have HYE := hid (fun k hk h => any_yes (l := l) (p := badW) (k := k) hk h)
  clear hl hs ht
  go_enter Tryd.func44, Tryd.ntmps44
  go_wp2
  go_loopg [8] l.length (fun gk i wr => ∃ k : Nat, k + gk = l.length ∧ i = .int .i64 k ∧ Hid (∀ j (h : j < l.length), j < k → badW l[j] = false) ∧ Below w.heap.size w wr)
  case atStart => exact ⟨0, by omega, rfl, (fun j h h2 => by omega), Below.refl _ _⟩
  case round =>
    obtain ⟨k, hk, rfl, HB, hbe⟩ := hrel
    have HK := hid hk
    by_cases hlt : k < l.length
    · obtain ⟨b, o, rfl, _, hc⟩ := (HA.out.below hbe).at k hlt
      have HC := hid (oddw_calls l[k] (HSZ.out _ (List.getElem_mem hlt)) wr (HT.out.on hbe))
      have HY := hid (HYE.out k hlt)
      have HB2 : Hid (badW l[k] = false → ∀ j (h : j < l.length), j < k + 1 → badW l[j] = false) := fun h j hj h2 => by
        by_cases e : j = k
        · subst e; exact h
        · exact HB.out j hj (by omega)
      change Hid (Calls _ _ _ _ (BoolR (badW l[k]) wr)) at HC
      generalize hbb : badW l[k] = bb at *
      generalize l[k] = x at *
      clear hk hbb
      cases bb with
      | true =>
        have HYY := hid (HY.out rfl)
        clear HB2 HNO HYE HY
        go_wp2_with fail
        refine HC.out.mono ?_
        rintro e w1 ⟨rfl, hb1⟩
        have hbb := hbe.trans (hb1.mono hbe.size)
        go_wp2
        go_ret
        exact ⟨k, rfl, by rw [HYY.out]; simp, hbb⟩
      | false =>
        have HB3 := hid (HB2.out rfl)
        clear HB2 HNO HYE HY
        go_wp2_with fail
        refine HC.out.mono ?_
        rintro e w1 ⟨rfl, hb1⟩
        have hbb := hbe.trans (hb1.mono hbe.size)
        go_wp2
        go_roundg (gk - 1)
        case measure => have := HK.out; omega
        case rel => exact ⟨k + 1, by have := HK.out; omega, by go_num, HB3, hbb⟩
    · obtain rfl : k = l.length := by omega
      have HE := hid (HNO.out fun j hj => HB.out j hj hj)
      clear hk
      go_wp2
      go_ret
      exact ⟨-1, rfl, by rw [HE.out]; rfl, hbe⟩
theorem conS_calls (va : Value) (l : List ByteArray) (w : World) (hl : StrsAt w va l) (hs : ∀ x ∈ l, x.size ≤ 9223372036854775807) (ht : Tab w) :
    Calls Tryd.prog 34 #[va, fnV 35] w (BoolR (l.any badW) w) := by
  have HC := hid (idxS_calls va l w hl hs ht)
  generalize l.any badW = b at *
  go_enter Tryd.func34, Tryd.ntmps34
  go_wp2_with fail
  refine HC.out.mono ?_
  rintro e w1 ⟨i, rfl, rfl, hb⟩
  go_wp2
  go_ret
  exact ⟨rfl, hb⟩
/-- a line that may not be -/
def badL (x : List ByteArray) : Bool := decide (x.length = 0) || x.any badW
theorem badL_odd (x : List ByteArray) : badL x = oddL (unW x) := by
  unfold badL oddL unW
  rw [List.any_map]
  congr 1
  cases x <;> simp
set_option maxHeartbeats 1000000 in
theorem odd_calls (va : Value) (l : List ByteArray) (w : World) (hl : StrsAt w va l) (hs : ∀ x ∈ l, x.size ≤ 9223372036854775807) (ht : Tab w) :
    Calls Tryd.prog 23 #[va] w (BoolR (badL l) w) := by
  have HC := hid (conS_calls va l w hl hs ht)
  obtain ⟨ao, ac, rfl, hla⟩ := hl.slice
  unfold badL
  generalize l.any badW = b at *
  by_cases h0 : l.length = 0
  · rw [h0] at HC ⊢
    clear hl hla h0 hs
    go_enter Tryd.func23, Tryd.ntmps23
    go_wp2
    go_ret
    exact ⟨by simp, Below.refl _ _⟩
  · have hne : ((l.length : Int) == 0) = false := beq_eq_false_iff_ne.2 (by omega)
    have hd : decide (l.length = 0) = false := by simpa using h0
    rw [hd]
    clear hl hd h0 hs
    generalize l.length = n at *
    go_enter Tryd.func23, Tryd.ntmps23
    go_wp2_with fail
    refine HC.out.mono ?_
    rintro e w1 ⟨rfl, hb⟩
    go_wp2
    go_ret
    exact ⟨by simp, hb⟩
set_option maxHeartbeats 1000000 in
theorem idxL_calls (va : Value) (l : List (List ByteArray)) (w : World) (hl : LinesAt w va l) (hs : ∀ x ∈ l, ∀ y ∈ x, y.size ≤ 9223372036854775807) (ht : Tab w) :
    Calls Tryd.prog 33 #[va, fnV 23] w (IdxR (l.any badL) w) := by
  have HA := hid hl
  obtain ⟨ao, ac, rfl, hla⟩ := hl.slice
  have HT := hid ht
  have HSZ := hid hs
  have HNO := hid (any_no (l := l) (p := badL))
  have HYE := hid (fun k hk h => any_yes (l := l) (p := badL) (k := k) hk h)
  clear hl hs ht
  go_enter Tryd.func33, Tryd.ntmps33
  go_wp2
  go_loopg [8] l.length (fun gk i wr => ∃ k : Nat, k + gk = l.length ∧ i = .int .i64 k ∧ Hid (∀ j (h : j < l.length), j < k → badL l[j] = false) ∧ Below w.heap.size w wr)
  case atStart => exact ⟨0, by omega, rfl, (fun j h h2 => by omega), Below.refl _ _⟩
  case round =>
    obtain ⟨k, hk, rfl, HB, hbe⟩ := hrel
    have HK := hid hk
    by_cases hlt : k < l.length
    · obtain ⟨b, o, pv, rfl, _, hc, hp⟩ := (HA.out.below hbe).at k hlt
      have HC := hid (odd_calls pv l[k] wr hp (HSZ.out _ (List.getElem_mem hlt)) (HT.out.on hbe))
      have HY := hid (HYE.out k hlt)
      have HB2 : Hid (badL l[k] = false → ∀ j (h : j < l.length), j < k + 1 → badL l[j] = false) := fun h j hj h2 => by
        by_cases e : j = k
        · subst e; exact h
        · exact HB.out j hj (by omega)
      change Hid (Calls _ _ _ _ (BoolR (badL l[k]) wr)) at HC
      generalize hbb : badL l[k] = bb at *
      generalize l[k] = x at *
      clear hk hbb hp
      cases bb with
      | true =>
        have HYY := hid (HY.out rfl)
        clear HB2 HNO HYE HY
        go_wp2_with fail
        refine HC.out.mono ?_
        rintro e w1 ⟨rfl, hb1⟩
        have hbb := hbe.trans (hb1.mono hbe.size)
        go_wp2
        go_ret
        exact ⟨k, rfl, by rw [HYY.out]; simp, hbb⟩
      | false =>
        have HB3 := hid (HB2.out rfl)
        clear HB2 HNO HYE HY
        go_wp2_with fail
        refine HC.out.mono ?_
        rintro e w1 ⟨rfl, hb1⟩
        have hbb := hbe.trans (hb1.mono hbe.size)
        go_wp2
        go_roundg (gk - 1)
        case measure => have := HK.out; omega
        case rel => exact ⟨k + 1, by have := HK.out; omega, by go_num, HB3, hbb⟩
    · obtain rfl : k = l.length := by omega
      have HE := hid (HNO.out fun j hj => HB.out j hj hj)
      clear hk
      go_wp2
      go_ret
      exact ⟨-1, rfl, by rw [HE.out]; rfl, hbe⟩
theorem conL_calls (va : Value) (l : List (List ByteArray)) (w : World) (hl : LinesAt w va l) (hs : ∀ x ∈ l, ∀ y ∈ x, y.size ≤ 9223372036854775807) (ht : Tab w) :
    Calls Tryd.prog 22 #[va, fnV 23] w (BoolR (l.any badL) w) := by
  have HC := hid (idxL_calls va l w hl hs ht)
  generalize l.any badL = b at *
  go_enter Tryd.func22, Tryd.ntmps22
  go_wp2_with fail
  refine HC.out.mono ?_
  rintro e w1 ⟨i, rfl, rfl, hb⟩
  go_wp2
  go_ret
  exact ⟨rfl, hb⟩
end Go.Proofs.YtfnibkepkomcdaaDoor.LxO
