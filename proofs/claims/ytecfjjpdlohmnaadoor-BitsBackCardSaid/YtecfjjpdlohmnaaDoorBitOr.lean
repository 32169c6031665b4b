/- Walks over bits.together, Or, And, Minus. -/
import Derived.Test.YtecfjjpdlohmnaaDoorBitStep
import Derived.Test.YtecfjjpdlohmnaaDoorBitCheck
import Derived.Test.YtecfjjpdlohmnaaDoorSetGQ
namespace Go.Proofs.YtecfjjpdlohmnaaDoor.BitOr
open Go.RowKit Go.Lib SetP SetO SetNum SetIn SetWith SetT SetW2 SetF SetG SetC BitCheck BitOps BitPut BitStep

/-- what together answers -/
def togS (F : Int → Int → Int) (a b : List Wd) : List Wd := if MayW a ∧ MayW b then mergeS F a b else []
def togE (a b : List Wd) : Int := if MayW a ∧ MayW b then 0 else 8

set_option maxHeartbeats 1000000 in
theorem tog_calls (g : FuncId) (he : Enters Tryd.prog g) (F : Int → Int → Int)
    (hop : ∀ x y w, U x → U y → Calls Tryd.prog g #[.int .u64 x, .int .u64 y] w fun e w' => e = .returned (.int .u64 (F x y)) ∧ w = w')
    (va vb : Value) (a b : List Wd) (w : World) (ha : SetAt w va a) (hb : SetAt w vb b) (hoka : ∀ x ∈ a, WdOk x) (hokb : ∀ x ∈ b, WdOk x) :
    Calls Tryd.prog 27 #[va, vb, .func (.func g) #[] #[]] w (OwnSR (togS F a b) (togE a b) w) := by
  have HA := hid (fun w' hw' => BitCheck.check_calls va a w' hw' hoka)
  have HB := hid (fun w' hw' => BitCheck.check_calls vb b w' hw' hokb)
  have HSA := hid ha
  have HSB := hid hb
  have HSTEP := hid (fun hua hub hla hlb => step_calls g he F hop va vb a b w ha hb hua hub hla hlb)
  have HOKA := hid hoka
  have HOKB := hid hokb
  clear hop he ha hb hoka hokb
  by_cases hma : MayW a
  · rw [chk_yes hma] at HA
    by_cases hmb : MayW b
    · rw [chk_yes hmb] at HB
      have e1 : togS F a b = mergeS F a b := if_pos ⟨hma, hmb⟩
      have e2 : togE a b = 0 := if_pos ⟨hma, hmb⟩
      rw [e1, e2]
      have HS2 := hid (HSTEP.out (may_u hma) (may_u hmb) (may_length hma) (may_length hmb))
      clear hma hmb HSTEP e1 e2
      have hb0 : Below w.heap.size w (w.alloc (.cells #[.func (.func g) #[] #[]] 57)) := (Below.refl _ _).alloc (Nat.le_refl _) _
      go_enter Tryd.func27, Tryd.ntmps27
      go_wp2_with fail
      refine (HA.out _ (HSA.out.below hb0)).mono ?_
      rintro e w1 ⟨rfl, hb1⟩
      have hbx := hb0.trans (hb1.mono hb0.size)
      have hf1 : Boxed w1 w.heap.size 57 (.func (.func g) #[] #[]) := (hb1.block _ (by simp)).trans (Boxed.new w _ _)
      go_wp2_with fail
      refine (HB.out _ (HSB.out.below hbx)).mono ?_
      rintro e w2 ⟨rfl, hb2⟩
      have hby := hbx.trans (hb2.mono hbx.size)
      have hf2 : Boxed w2 w.heap.size 57 (.func (.func g) #[] #[]) := (hb2.block _ hf1.lt).trans hf1
      clear hb1 hb2 hbx hf1 hb0
      have HF := hid hf2
      have HBY := hid hby
      clear hf2 hby
      go_wp2_with fail
      refine (HS2.out w2.heap.size w.heap.size HBY.out.size _ ?_ ?_).mono ?_
      · exact HBY.out.alloc HBY.out.size _
      · exact ⟨.slice none 0 0, 0, Boxed.new _ _ _, HF.out.alloc _, World.ownsRow_nil _ _ _ _⟩
      rintro e w3 ⟨rfl, ⟨v, m, hv, _, hown⟩, hb3⟩
      have hcv := hv.cell
      clear hv
      go_wp2
      go_ret2
      exact ⟨v, m, rfl, hown, hb3⟩
    · rw [chk_no hmb] at HB
      have e1 : togS F a b = [] := if_neg (fun h => hmb h.2)
      have e2 : togE a b = 8 := if_neg (fun h => hmb h.2)
      rw [e1, e2]
      clear hma hmb HSTEP e1 e2
      have hb0 : Below w.heap.size w (w.alloc (.cells #[.func (.func g) #[] #[]] 57)) := (Below.refl _ _).alloc (Nat.le_refl _) _
      go_enter Tryd.func27, Tryd.ntmps27
      go_wp2_with fail
      refine (HA.out _ (HSA.out.below hb0)).mono ?_
      rintro e w1 ⟨rfl, hb1⟩
      have hbx := hb0.trans (hb1.mono hb0.size)
      clear hb1
      go_wp2_with fail
      refine (HB.out _ (HSB.out.below hbx)).mono ?_
      rintro e w2 ⟨rfl, hb2⟩
      have hby := hbx.trans (hb2.mono hbx.size)
      clear hb2 hbx hb0
      go_wp2
      go_ret2
      exact ⟨_, 0, rfl, World.ownsRow_nil _ _ _ _, hby⟩
  · rw [chk_no hma] at HA
    have e1 : togS F a b = [] := if_neg (fun h => hma h.1)
    have e2 : togE a b = 8 := if_neg (fun h => hma h.1)
    rw [e1, e2]
    clear hma HSTEP e1 e2
    have hb0 : Below w.heap.size w (w.alloc (.cells #[.func (.func g) #[] #[]] 57)) := (Below.refl _ _).alloc (Nat.le_refl _) _
    go_enter Tryd.func27, Tryd.ntmps27
    go_wp2_with fail
    refine (HA.out _ (HSA.out.below hb0)).mono ?_
    rintro e w1 ⟨rfl, hb1⟩
    have hbx := hb0.trans (hb1.mono hb0.size)
    clear hb1 hb0
    go_wp2
    go_ret2
    exact ⟨_, 0, rfl, World.ownsRow_nil _ _ _ _, hbx⟩

theorem merge_union {a b : List Wd} (ha : MayW a) (hb : MayW b) : mergeS orI a b = unionS a b :=
  ext (merge_may or_ok ha hb) (union_may ha hb) fun n h0 h1 => by rw [inS_merge or_ok n h0 a b ha hb, inS_union ha hb h0 h1]
theorem merge_meet {a b : List Wd} (ha : MayW a) (hb : MayW b) : mergeS andI a b = meetS a b :=
  ext (merge_may and_ok ha hb) (meet_may ha) fun n h0 h1 => by rw [inS_merge and_ok n h0 a b ha hb, inS_meet ha h0 h1]
theorem merge_minus {a b : List Wd} (ha : MayW a) (hb : MayW b) : mergeS minusI a b = minusS a b :=
  ext (merge_may minus_ok ha hb) (minus_may ha) fun n h0 h1 => by rw [inS_merge minus_ok n h0 a b ha hb, inS_minus ha h0 h1]

/-- what Or, And, Minus answer -/
def orS (a b : List Wd) : List Wd := if MayW a ∧ MayW b then unionS a b else []
def andS (a b : List Wd) : List Wd := if MayW a ∧ MayW b then meetS a b else []
def lessS (a b : List Wd) : List Wd := if MayW a ∧ MayW b then minusS a b else []
theorem tog_or (a b : List Wd) : togS orI a b = orS a b := by
  unfold togS orS; split
  · exact merge_union (by simp_all) (by simp_all)
  · rfl
theorem tog_and (a b : List Wd) : togS andI a b = andS a b := by
  unfold togS andS; split
  · exact merge_meet (by simp_all) (by simp_all)
  · rfl
theorem tog_less (a b : List Wd) : togS minusI a b = lessS a b := by
  unfold togS lessS; split
  · exact merge_minus (by simp_all) (by simp_all)
  · rfl

theorem or_calls (va vb : Value) (a b : List Wd) (w : World) (ha : SetAt w va a) (hb : SetAt w vb b) (hoka : ∀ x ∈ a, WdOk x) (hokb : ∀ x ∈ b, WdOk x) :
    Calls Tryd.prog 11 #[va, vb] w (OwnSR (orS a b) (togE a b) w) := by
  have H := hid (tog_calls 28 (enters_of Tryd.func28 (by kernel_rfl) rfl) orI or_op va vb a b w ha hb hoka hokb)
  rw [tog_or] at H
  clear ha hb hoka hokb
  go_enter Tryd.func11, Tryd.ntmps11
  go_wp2_with fail
  refine H.out.mono ?_
  rintro e w1 ⟨u, m, rfl, hown, hb1⟩
  go_wp2
  go_ret2
  exact ⟨u, m, rfl, hown, hb1⟩
theorem and_calls (va vb : Value) (a b : List Wd) (w : World) (ha : SetAt w va a) (hb : SetAt w vb b) (hoka : ∀ x ∈ a, WdOk x) (hokb : ∀ x ∈ b, WdOk x) :
    Calls Tryd.prog 12 #[va, vb] w (OwnSR (andS a b) (togE a b) w) := by
  have H := hid (tog_calls 29 (enters_of Tryd.func29 (by kernel_rfl) rfl) andI and_op va vb a b w ha hb hoka hokb)
  rw [tog_and] at H
  clear ha hb hoka hokb
  go_enter Tryd.func12, Tryd.ntmps12
  go_wp2_with fail
  refine H.out.mono ?_
  rintro e w1 ⟨u, m, rfl, hown, hb1⟩
  go_wp2
  go_ret2
  exact ⟨u, m, rfl, hown, hb1⟩
theorem minus_calls (va vb : Value) (a b : List Wd) (w : World) (ha : SetAt w va a) (hb : SetAt w vb b) (hoka : ∀ x ∈ a, WdOk x) (hokb : ∀ x ∈ b, WdOk x) :
    Calls Tryd.prog 25 #[va, vb] w (OwnSR (lessS a b) (togE a b) w) := by
  have H := hid (tog_calls 36 (enters_of Tryd.func36 (by kernel_rfl) rfl) minusI minus_op va vb a b w ha hb hoka hokb)
  rw [tog_less] at H
  clear ha hb hoka hokb
  go_enter Tryd.func25, Tryd.ntmps25
  go_wp2_with fail
  refine H.out.mono ?_
  rintro e w1 ⟨u, m, rfl, hown, hb1⟩
  go_wp2
  go_ret2
  exact ⟨u, m, rfl, hown, hb1⟩
end Go.Proofs.YtecfjjpdlohmnaaDoor.BitOr
