/- Walk over the statement BitsTells. -/
import Derived.Test.YtecfjjpdlohmnaaDoorBitList
import Derived.Test.YtecfjjpdlohmnaaDoorBitHas
import Derived.Test.YtecfjjpdlohmnaaDoorBitSame
import Derived.Test.YtecfjjpdlohmnaaDoorBitClone
import Derived.Test.YtecfjjpdlohmnaaDoorSetCA
namespace Go.Proofs.YtecfjjpdlohmnaaDoor.SetTellsW
open Go.RowKit Go.Lib SetP SetO SetNum SetIn SetWith SetT SetW2 SetG SetC SetSame BitCheck BitHas BitOnes BitTz BitList BitSame BitClone

/-- two alike -/
theorem same_yes (u v : Value) (s : List Wd) (w : World) (h1 : SetAt w u s) (h2 : SetAt w v s) : Calls Tryd.prog 24 #[u, v] w fun e w' => e = .returned (.bool true) ∧ Below w.heap.size w w' :=
  (same_sets u v s s w h1 h2).mono fun e w' ⟨he, n, hw⟩ => ⟨by rw [he, decide_eq_true rfl], by rw [hw]; exact below_drewN (Below.refl _ _) n⟩
theorem ints_yes (u v : Value) (s : List Int) (w : World) (h1 : IntsAt w u s) (h2 : IntsAt w v s) : Calls Tryd.prog 21 #[u, v] w fun e w' => e = .returned (.bool true) ∧ Below w.heap.size w w' :=
  (same_ints u v s s w h1 h2).mono fun e w' ⟨he, n, hw⟩ => ⟨by rw [he, decide_eq_true rfl], by rw [hw]; exact below_drewN (Below.refl _ _) n⟩
theorem ref_list (v : Value) (s : List Wd) (w : World) (hs : SetAt w v s) (hok : ∀ x ∈ s, WdOk x) : Calls Tryd.prog 18 #[v] w (OwnIR2 (listS s) (chk s) w) := SetC.list_calls v s w hs hok
theorem ref_has (v : Value) (s : List Wd) (n : Int) (w : World) (hs : SetAt w v s) (hok : ∀ x ∈ s, WdOk x) : Calls Tryd.prog 19 #[v, .int .i64 n] w fun e w' => e = .returned (.tuple #[.bool (hasB s n), .int .i64 (hasE s n)]) ∧ Below w.heap.size w w' := SetC.has_calls v s n w hs hok
theorem ref_size (v : Value) (s : List Wd) (w : World) (hs : SetAt w v s) (hok : ∀ x ∈ s, WdOk x) : Calls Tryd.prog 20 #[v] w fun e w' => e = .returned (.tuple #[.int .i64 (sizeI s), .int .i64 (chk s)]) ∧ Below w.heap.size w w' := SetC.size_calls v s w hs hok
theorem ref_check (v : Value) (s : List Wd) (w : World) (hs : SetAt w v s) (hok : ∀ x ∈ s, WdOk x) : Calls Tryd.prog 22 #[v] w fun e w' => e = .returned (.int .i64 (chk s)) ∧ Below w.heap.size w w' :=
  (SetC.check_calls v s w hs hok).mono fun e w' ⟨he, n, hw⟩ => ⟨he, by rw [hw]; exact below_drewN (Below.refl _ _) n⟩
theorem ref_same (v u : Value) (s t : List Wd) (w : World) (hs : SetAt w v s) (ht : SetAt w u t) : Calls Tryd.prog 24 #[v, u] w fun e w' => e = .returned (.bool (decide (s = t))) ∧ Below w.heap.size w w' :=
  (same_sets v u s t w hs ht).mono fun e w' ⟨he, n, hw⟩ => ⟨he, by rw [hw]; exact below_drewN (Below.refl _ _) n⟩
theorem list_len (s : List Wd) : (listS s).length ≤ 1048576 := by
  unfold listS
  split
  · rename_i h
    have := may_length h
    have := numbers_length s
    omega
  · simp
theorem own_ints {w : World} {B : Nat} {v : Value} {n : Nat} {s : List Wd} (h : w.ownsRow B 3 1 v n (intVals (listS s))) : IntsAt w v (listS s) := intsAt_of_owns h (by have := list_len s; omega)
theorem i64_wf {n : Int} (h : (Lit.int .i64 n).wf = true) : -9223372036854775808 ≤ n ∧ n ≤ 9223372036854775807 := by
  simpa [Lit.wf, IntKind.min, IntKind.max, IntKind.signed, IntKind.bits] using h

set_option maxRecDepth 100000 in
set_option maxHeartbeats 4000000 in
theorem walk (w : World) (va : Value) (a : List Wd) (ha : SetAt w va a) (hoka : ∀ x ∈ a, WdOk x) (vb : Value) (b : List Wd) (hb : SetAt w vb b) (_hokb : ∀ x ∈ b, WdOk x) (n : Int) (_hn : (Lit.int .i64 n).wf = true) (ht : Tab w) :
    Calls Tryd.prog 4 #[va, vb, .int .i64 n] w fun e w' => e = .returned (.bool true) ∧ Below w.heap.size w w' := by
  have HA := hid ha
  have HB := hid hb
  have HT := hid ht
  have HOA := hid hoka
  clear hoka ht
  obtain ⟨ao, capa, rfl⟩ : ∃ ao cap, va = .slice ao a.length cap := by obtain ⟨ao, cap, rfl, _⟩ := ha; exact ⟨ao, cap, rfl⟩
  obtain ⟨bo, capb, rfl⟩ : ∃ ao cap, vb = .slice ao b.length cap := by obtain ⟨ao, cap, rfl, _⟩ := hb; exact ⟨ao, cap, rfl⟩
  clear ha hb
  by_cases h0 : 10 < a.length
  · go_enter Tryd.func4, Tryd.ntmps4
    go_wp2
    go_ret
    exact ⟨rfl, Below.refl _ _⟩
  by_cases h1 : 10 < b.length
  · go_enter Tryd.func4, Tryd.ntmps4
    go_wp2
    go_ret
    exact ⟨rfl, Below.refl _ _⟩
  have HA0 : Hid (∀ w', Below w.heap.size w w' → SetAt w' (.slice ao a.length capa) a) := fun w' h => HA.out.below h
  have HB0 : Hid (∀ w', Below w.heap.size w w' → SetAt w' (.slice bo b.length capb) b) := fun w' h => HB.out.below h
  have e1 : (chk a == chk a) = true := by simp
  have e2 : (hasB a n == hasB a n) = true := by simp
  have e3 : (hasE a n == hasE a n) = true := by simp
  have e4 : (sizeI a == sizeI a) = true := by simp
  have e5 : (decide (a = b) == decide (a = b)) = true := by simp
  have b0 : Below w.heap.size w w := Below.refl _ _
  clear HA HB
  go_enter Tryd.func4, Tryd.ntmps4
  go_wp2_with (first | (at_builtin; refine wpList_clone_set rfl (.tmp 29) (.tmp 30) rfl w.heap.size (.slice (some ⟨w.heap.size, 0, none⟩) 0 0) rfl ?xo (.slice ao a.length capa) a rfl ?xh ?xl ?xb ?_))
  case xo => exact World.ownsRow_made w #[] 0 (Nat.le_refl _) (by decide) (by simp)
  case xh => exact HA0.out _ (b0.alloc (Nat.le_refl _) _)
  case xl => omega
  case xb => simp
  intro vx nx w1 ownx b1
  have C1 := hid ((b0.alloc (Nat.le_refl _) _).trans b1)
  have HX := hid (setAt_of_owns ownx (by omega))
  clear ownx b1 b0
  go_wp2_with fail
  refine (BitList.list_calls vx a w1 HX.out HOA.out (HT.out.on C1.out)).mono ?_
  rintro e w2 ⟨vl, nl, rfl, ownl, b2⟩
  have HL := hid (own_ints ownl)
  have C2 := hid (C1.out.trans (b2.mono C1.out.size))
  have D2 := hid b2
  clear ownl b2
  go_wp2_with fail
  refine (ref_list _ a w2 (HA0.out _ C2.out) HOA.out).mono ?_
  rintro e w3 ⟨vk, nk, rfl, ownk, b3⟩
  have HK := hid (own_ints ownk)
  have HL3 := hid (HL.out.below b3)
  have C3 := hid (C2.out.trans (b3.mono C2.out.size))
  have D3 := hid (D2.out.trans (b3.mono D2.out.size))
  clear ownk b3 HL C2 D2
  go_wp2_with fail
  refine (BitHas.has_calls vx a n w3 (HX.out.below D3.out) HOA.out).mono ?_
  rintro e w4 ⟨rfl, b4⟩
  have HK4 := hid (HK.out.below b4)
  have HL4 := hid (HL3.out.below b4)
  have C4 := hid (C3.out.trans (b4.mono C3.out.size))
  have D4 := hid (D3.out.trans (b4.mono D3.out.size))
  clear b4 HK HL3 C3 D3
  go_wp2_with fail
  refine (ref_has _ a n w4 (HA0.out _ C4.out) HOA.out).mono ?_
  rintro e w5 ⟨rfl, b5⟩
  have HK5 := hid (HK4.out.below b5)
  have HL5 := hid (HL4.out.below b5)
  have C5 := hid (C4.out.trans (b5.mono C4.out.size))
  have D5 := hid (D4.out.trans (b5.mono D4.out.size))
  clear b5 HK4 HL4 C4 D4
  go_wp2_with fail
  refine (BitOnes.size_calls vx a w5 (HX.out.below D5.out) HOA.out).mono ?_
  rintro e w6 ⟨rfl, b6⟩
  have HK6 := hid (HK5.out.below b6)
  have HL6 := hid (HL5.out.below b6)
  have C6 := hid (C5.out.trans (b6.mono C5.out.size))
  have D6 := hid (D5.out.trans (b6.mono D5.out.size))
  clear b6 HK5 HL5 C5 D5
  go_wp2_with fail
  refine (ref_size _ a w6 (HA0.out _ C6.out) HOA.out).mono ?_
  rintro e w7 ⟨rfl, b7⟩
  have HK7 := hid (HK6.out.below b7)
  have HL7 := hid (HL6.out.below b7)
  have C7 := hid (C6.out.trans (b7.mono C6.out.size))
  have D7 := hid (D6.out.trans (b7.mono D6.out.size))
  clear b7 HK6 HL6 C6 D6
  go_wp2_with fail
  refine (ints_yes _ _ _ w7 HL7.out HK7.out).mono ?_
  rintro e w8 ⟨rfl, b8⟩
  have C8 := hid (C7.out.trans (b8.mono C7.out.size))
  have D8 := hid (D7.out.trans (b8.mono D7.out.size))
  clear b8 HK7 HL7 C7 D7
  go_wp2_with fail
  refine (BitCheck.check_calls vx a w8 (HX.out.below D8.out) HOA.out).mono ?_
  rintro e w9 ⟨rfl, b9⟩
  have C9 := hid (C8.out.trans (b9.mono C8.out.size))
  have D9 := hid (D8.out.trans (b9.mono D8.out.size))
  clear b9 C8 D8
  go_wp2_with fail
  refine (ref_check _ a w9 (HA0.out _ C9.out) HOA.out).mono ?_
  rintro e w10 ⟨rfl, b10⟩
  have C10 := hid (C9.out.trans (b10.mono C9.out.size))
  have D10 := hid (D9.out.trans (b10.mono D9.out.size))
  clear b10 C9 D9
  go_wp2_with fail
  refine (BitSame.same_calls vx _ a b w10 (HX.out.below D10.out) (HB0.out _ C10.out)).mono ?_
  rintro e w11 ⟨rfl, b11⟩
  have C11 := hid (C10.out.trans (b11.mono C10.out.size))
  have D11 := hid (D10.out.trans (b11.mono D10.out.size))
  clear b11 C10 D10
  go_wp2_with fail
  refine (ref_same _ _ a b w11 (HA0.out _ C11.out) (HB0.out _ C11.out)).mono ?_
  rintro e w12 ⟨rfl, b12⟩
  have C12 := hid (C11.out.trans (b12.mono C11.out.size))
  have D12 := hid (D11.out.trans (b12.mono D11.out.size))
  clear b12 C11 D11
  go_wp2_with fail
  refine (same_yes vx _ a w12 (HX.out.below D12.out) (HA0.out _ C12.out)).mono ?_
  rintro e w13 ⟨rfl, b13⟩
  have C13 := hid (C12.out.trans (b13.mono C12.out.size))
  clear b13 C12 D12
  go_wp2
  go_ret
  exact ⟨rfl, C13.out⟩
end Go.Proofs.YtecfjjpdlohmnaaDoor.SetTellsW
