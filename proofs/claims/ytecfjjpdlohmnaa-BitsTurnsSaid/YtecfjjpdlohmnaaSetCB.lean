/- Walks over fescueref02.Or, And, Minus. -/
import Derived.Test.YtecfjjpdlohmnaaSetC0
import Derived.Test.YtecfjjpdlohmnaaSetU
namespace Go.Proofs.Ytecfjjpdlohmnaa.SetC
open Go.RowKit Go.Lib SetP SetO SetNum SetIn SetWith SetT SetW2 SetF SetG SetU SetMay

set_option maxHeartbeats 400000 in
theorem or_calls (va vb : Value) (a b : List Wd) (w : World) (ha : SetAt w va a) (hb : SetAt w vb b) (hoka : ∀ x ∈ a, WdOk x) (hokb : ∀ x ∈ b, WdOk x) :
    Calls Try.prog 7 #[va, vb] w (OwnSR (if MayW a ∧ MayW b then unionS a b else []) (if MayW a ∧ MayW b then 0 else 8) w) := by
  have HA := hid (may_w va a w ha hoka)
  have HB := hid (fun wx hsx => may_w vb b wx hsx hokb)
  have HSA := hid ha
  have HSB := hid hb
  have hnot : ∀ (x : Bool) (w : World), (Op.unary .not (.bool x)).run Try.prog w = .ok (.bool (!x)) w := fun _ _ => rfl
  by_cases hma : MayW a
  · rw [decide_eq_true hma] at HA
    by_cases hmb : MayW b
    · rw [decide_eq_true hmb] at HB
      rw [if_pos ⟨hma, hmb⟩, if_pos ⟨hma, hmb⟩]
      have HN := hid (fun wx h1 h2 => union_calls va vb a b wx h1 h2 hma hmb)
      clear hma hmb ha hb
      go_enter Try.func7, Try.ntmps7
      go_wp2_with fail
      refine HA.out.mono ?_
      rintro e w1 ⟨rfl, n, hw⟩
      have hb1 : Below w.heap.size w w1 := by rw [hw]; exact below_drewN (Below.refl _ _) n
      clear hw
      go_wp2_with fail
      refine (HB.out w1 (HSB.out.below hb1)).mono ?_
      rintro e w2 ⟨rfl, n2, hw⟩
      have hb2 : Below w.heap.size w w2 := by rw [hw]; exact below_drewN hb1 n2
      clear hw hb1
      go_wp2_with fail
      refine (HN.out w2 (HSA.out.below hb2) (HSB.out.below hb2)).mono ?_
      rintro e w3 ⟨u, m, rfl, hown, hb3⟩
      have hown2 := owns_base (B := w.heap.size) hown hb2.size
      have hb4 := hb2.trans (hb3.mono hb2.size)
      clear hown hb3
      go_wp2
      go_ret2
      exact ⟨u, m, rfl, hown2, hb4⟩
    · rw [decide_eq_false hmb] at HB
      rw [if_neg (fun h => hmb h.2), if_neg (fun h => hmb h.2)]
      clear hma hmb ha hb
      go_enter Try.func7, Try.ntmps7
      go_wp2_with fail
      refine HA.out.mono ?_
      rintro e w1 ⟨rfl, n, hw⟩
      have hb1 : Below w.heap.size w w1 := by rw [hw]; exact below_drewN (Below.refl _ _) n
      clear hw
      go_wp2_with fail
      refine (HB.out w1 (HSB.out.below hb1)).mono ?_
      rintro e w2 ⟨rfl, n2, hw⟩
      have hb2 : Below w.heap.size w w2 := by rw [hw]; exact below_drewN hb1 n2
      clear hw hb1
      go_wp2
      go_ret2
      exact ⟨_, 0, rfl, World.ownsRow_nil _ _ _ _, hb2⟩
  · rw [decide_eq_false hma] at HA
    rw [if_neg (fun h => hma h.1), if_neg (fun h => hma h.1)]
    clear hma ha hb
    go_enter Try.func7, Try.ntmps7
    go_wp2_with fail
    refine HA.out.mono ?_
    rintro e w1 ⟨rfl, n, hw⟩
    have hb1 : Below w.heap.size w w1 := by rw [hw]; exact below_drewN (Below.refl _ _) n
    clear hw
    go_wp2
    go_ret2
    exact ⟨_, 0, rfl, World.ownsRow_nil _ _ _ _, hb1⟩

set_option maxHeartbeats 400000 in
theorem and_calls (va vb : Value) (a b : List Wd) (w : World) (ha : SetAt w va a) (hb : SetAt w vb b) (hoka : ∀ x ∈ a, WdOk x) (hokb : ∀ x ∈ b, WdOk x) :
    Calls Try.prog 9 #[va, vb] w (OwnSR (if MayW a ∧ MayW b then meetS a b else []) (if MayW a ∧ MayW b then 0 else 8) w) := by
  have HA := hid (may_w va a w ha hoka)
  have HB := hid (fun wx hsx => may_w vb b wx hsx hokb)
  have HSA := hid ha
  have HSB := hid hb
  have hnot : ∀ (x : Bool) (w : World), (Op.unary .not (.bool x)).run Try.prog w = .ok (.bool (!x)) w := fun _ _ => rfl
  by_cases hma : MayW a
  · rw [decide_eq_true hma] at HA
    by_cases hmb : MayW b
    · rw [decide_eq_true hmb] at HB
      rw [if_pos ⟨hma, hmb⟩, if_pos ⟨hma, hmb⟩]
      have HN := hid (fun wx h1 h2 => meet_calls va vb a b wx h1 h2 hma hmb)
      clear hma hmb ha hb
      go_enter Try.func9, Try.ntmps9
      go_wp2_with fail
      refine HA.out.mono ?_
      rintro e w1 ⟨rfl, n, hw⟩
      have hb1 : Below w.heap.size w w1 := by rw [hw]; exact below_drewN (Below.refl _ _) n
      clear hw
      go_wp2_with fail
      refine (HB.out w1 (HSB.out.below hb1)).mono ?_
      rintro e w2 ⟨rfl, n2, hw⟩
      have hb2 : Below w.heap.size w w2 := by rw [hw]; exact below_drewN hb1 n2
      clear hw hb1
      go_wp2_with fail
      refine (HN.out w2 (HSA.out.below hb2) (HSB.out.below hb2)).mono ?_
      rintro e w3 ⟨u, m, rfl, hown, hb3⟩
      have hown2 := owns_base (B := w.heap.size) hown hb2.size
      have hb4 := hb2.trans (hb3.mono hb2.size)
      clear hown hb3
      go_wp2
      go_ret2
      exact ⟨u, m, rfl, hown2, hb4⟩
    · rw [decide_eq_false hmb] at HB
      rw [if_neg (fun h => hmb h.2), if_neg (fun h => hmb h.2)]
      clear hma hmb ha hb
      go_enter Try.func9, Try.ntmps9
      go_wp2_with fail
      refine HA.out.mono ?_
      rintro e w1 ⟨rfl, n, hw⟩
      have hb1 : Below w.heap.size w w1 := by rw [hw]; exact below_drewN (Below.refl _ _) n
      clear hw
      go_wp2_with fail
      refine (HB.out w1 (HSB.out.below hb1)).mono ?_
      rintro e w2 ⟨rfl, n2, hw⟩
      have hb2 : Below w.heap.size w w2 := by rw [hw]; exact below_drewN hb1 n2
      clear hw hb1
      go_wp2
      go_ret2
      exact ⟨_, 0, rfl, World.ownsRow_nil _ _ _ _, hb2⟩
  · rw [decide_eq_false hma] at HA
    rw [if_neg (fun h => hma h.1), if_neg (fun h => hma h.1)]
    clear hma ha hb
    go_enter Try.func9, Try.ntmps9
    go_wp2_with fail
    refine HA.out.mono ?_
    rintro e w1 ⟨rfl, n, hw⟩
    have hb1 : Below w.heap.size w w1 := by rw [hw]; exact below_drewN (Below.refl _ _) n
    clear hw
    go_wp2
    go_ret2
    exact ⟨_, 0, rfl, World.ownsRow_nil _ _ _ _, hb1⟩

set_option maxHeartbeats 400000 in
theorem minusr_calls (va vb : Value) (a b : List Wd) (w : World) (ha : SetAt w va a) (hb : SetAt w vb b) (hoka : ∀ x ∈ a, WdOk x) (hokb : ∀ x ∈ b, WdOk x) :
    Calls Try.prog 11 #[va, vb] w (OwnSR (if MayW a ∧ MayW b then minusS a b else []) (if MayW a ∧ MayW b then 0 else 8) w) := by
  have HA := hid (may_w va a w ha hoka)
  have HB := hid (fun wx hsx => may_w vb b wx hsx hokb)
  have HSA := hid ha
  have HSB := hid hb
  have hnot : ∀ (x : Bool) (w : World), (Op.unary .not (.bool x)).run Try.prog w = .ok (.bool (!x)) w := fun _ _ => rfl
  by_cases hma : MayW a
  · rw [decide_eq_true hma] at HA
    by_cases hmb : MayW b
    · rw [decide_eq_true hmb] at HB
      rw [if_pos ⟨hma, hmb⟩, if_pos ⟨hma, hmb⟩]
      have HN := hid (fun wx h1 h2 => minus_calls va vb a b wx h1 h2 hma hmb)
      clear hma hmb ha hb
      go_enter Try.func11, Try.ntmps11
      go_wp2_with fail
      refine HA.out.mono ?_
      rintro e w1 ⟨rfl, n, hw⟩
      have hb1 : Below w.heap.size w w1 := by rw [hw]; exact below_drewN (Below.refl _ _) n
      clear hw
      go_wp2_with fail
      refine (HB.out w1 (HSB.out.below hb1)).mono ?_
      rintro e w2 ⟨rfl, n2, hw⟩
      have hb2 : Below w.heap.size w w2 := by rw [hw]; exact below_drewN hb1 n2
      clear hw hb1
      go_wp2_with fail
      refine (HN.out w2 (HSA.out.below hb2) (HSB.out.below hb2)).mono ?_
      rintro e w3 ⟨u, m, rfl, hown, hb3⟩
      have hown2 := owns_base (B := w.heap.size) hown hb2.size
      have hb4 := hb2.trans (hb3.mono hb2.size)
      clear hown hb3
      go_wp2
      go_ret2
      exact ⟨u, m, rfl, hown2, hb4⟩
    · rw [decide_eq_false hmb] at HB
      rw [if_neg (fun h => hmb h.2), if_neg (fun h => hmb h.2)]
      clear hma hmb ha hb
      go_enter Try.func11, Try.ntmps11
      go_wp2_with fail
      refine HA.out.mono ?_
      rintro e w1 ⟨rfl, n, hw⟩
      have hb1 : Below w.heap.size w w1 := by rw [hw]; exact below_drewN (Below.refl _ _) n
      clear hw
      go_wp2_with fail
      refine (HB.out w1 (HSB.out.below hb1)).mono ?_
      rintro e w2 ⟨rfl, n2, hw⟩
      have hb2 : Below w.heap.size w w2 := by rw [hw]; exact below_drewN hb1 n2
      clear hw hb1
      go_wp2
      go_ret2
      exact ⟨_, 0, rfl, World.ownsRow_nil _ _ _ _, hb2⟩
  · rw [decide_eq_false hma] at HA
    rw [if_neg (fun h => hma h.1), if_neg (fun h => hma h.1)]
    clear hma ha hb
    go_enter Try.func11, Try.ntmps11
    go_wp2_with fail
    refine HA.out.mono ?_
    rintro e w1 ⟨rfl, n, hw⟩
    have hb1 : Below w.heap.size w w1 := by rw [hw]; exact below_drewN (Below.refl _ _) n
    clear hw
    go_wp2
    go_ret2
    exact ⟨_, 0, rfl, World.ownsRow_nil _ _ _ _, hb1⟩
end Go.Proofs.Ytecfjjpdlohmnaa.SetC
