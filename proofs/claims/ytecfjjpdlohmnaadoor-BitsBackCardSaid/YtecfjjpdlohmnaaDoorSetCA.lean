/- Walks over fescueref02.Check, List, Size, Has. -/
import Derived.Test.YtecfjjpdlohmnaaDoorSetC0
import Derived.Test.YtecfjjpdlohmnaaDoorSetGP
namespace Go.Proofs.YtecfjjpdlohmnaaDoor.SetC
open Go.RowKit Go.Lib SetP SetO SetNum SetIn SetWith SetT SetW2 SetG SetMay

theorem check_calls (v : Value) (s : List Wd) (w : World) (hs : SetAt w v s) (hok : ∀ x ∈ s, WdOk x) :
    Calls Tryd.prog 22 #[v] w fun e w' => e = .returned (.int .i64 (if MayW s then 0 else 8)) ∧ ∃ n, w' = w.drewN n := by
  have HM := hid (may_w v s w hs hok)
  have hnot : ∀ (x : Bool) (w : World), (Op.unary .not (.bool x)).run Tryd.prog w = .ok (.bool (!x)) w := fun _ _ => rfl
  by_cases hm : MayW s
  · rw [decide_eq_true hm] at HM
    have HH := hid hm
    clear hm
    go_enter Tryd.func22, Tryd.ntmps22
    go_wp2_with fail
    refine HM.out.mono ?_
    rintro e w1 ⟨rfl, n, hw⟩
    have HW := hid hw
    clear hw
    go_wp2
    go_ret
    exact ⟨rfl, n, HW.out⟩
  · rw [decide_eq_false hm] at HM
    have HH := hid hm
    clear hm
    go_enter Tryd.func22, Tryd.ntmps22
    go_wp2_with fail
    refine HM.out.mono ?_
    rintro e w1 ⟨rfl, n, hw⟩
    have HW := hid hw
    clear hw
    go_wp2
    go_ret
    exact ⟨rfl, n, HW.out⟩

/-- a list, and an error -/
def OwnIR (l : List Int) (er : Int) (w : World) (e : Ending) (w' : World) : Prop := ∃ u m, e = .returned (.tuple #[u, .int .i64 er]) ∧ w'.ownsRow w.heap.size 3 1 u m (intVals l) ∧ Below w.heap.size w w'

theorem list_calls (v : Value) (s : List Wd) (w : World) (hs : SetAt w v s) (hok : ∀ x ∈ s, WdOk x) :
    Calls Tryd.prog 18 #[v] w (OwnIR (if MayW s then numbers s else []) (if MayW s then 0 else 8) w) := by
  have HM := hid (may_w v s w hs hok)
  have HSA := hid hs
  have hnot : ∀ (x : Bool) (w : World), (Op.unary .not (.bool x)).run Tryd.prog w = .ok (.bool (!x)) w := fun _ _ => rfl
  by_cases hm : MayW s
  · rw [decide_eq_true hm] at HM
    rw [if_pos hm, if_pos hm]
    have HH := hid hm
    have HN := hid (fun wx hsx => numbers_calls v s wx hsx hm.win (may_length hm))
    clear hm hs
    go_enter Tryd.func18, Tryd.ntmps18
    go_wp2_with fail
    refine HM.out.mono ?_
    rintro e w1 ⟨rfl, n, hw⟩
    have hb1 : Below w.heap.size w w1 := by rw [hw]; exact below_drewN (Below.refl _ _) n
    clear hw
    go_wp2_with fail
    refine (HN.out w1 (HSA.out.below hb1)).mono ?_
    rintro e w2 ⟨u, m, rfl, hown, hb2⟩
    have hown2 := owns_base (B := w.heap.size) hown hb1.size
    have hb3 := hb1.trans (hb2.mono hb1.size)
    clear hown hb2
    go_wp2
    go_ret2
    exact ⟨u, m, rfl, hown2, hb3⟩
  · rw [decide_eq_false hm] at HM
    rw [if_neg hm, if_neg hm]
    clear hm
    go_enter Tryd.func18, Tryd.ntmps18
    go_wp2_with fail
    refine HM.out.mono ?_
    rintro e w1 ⟨rfl, n, hw⟩
    have hb1 : Below w.heap.size w w1 := by rw [hw]; exact below_drewN (Below.refl _ _) n
    clear hw
    go_wp2
    go_ret2
    exact ⟨_, 0, rfl, World.ownsRow_nil _ _ _ _, hb1⟩

theorem size_calls (v : Value) (s : List Wd) (w : World) (hs : SetAt w v s) (hok : ∀ x ∈ s, WdOk x) :
    Calls Tryd.prog 20 #[v] w fun e w' => e = .returned (.tuple #[.int .i64 (if MayW s then ((numbers s).length : Int) else 0), .int .i64 (if MayW s then 0 else 8)]) ∧ Below w.heap.size w w' := by
  have HM := hid (may_w v s w hs hok)
  have HSA := hid hs
  have hnot : ∀ (x : Bool) (w : World), (Op.unary .not (.bool x)).run Tryd.prog w = .ok (.bool (!x)) w := fun _ _ => rfl
  by_cases hm : MayW s
  · rw [decide_eq_true hm] at HM
    rw [if_pos hm, if_pos hm]
    have HN := hid (fun wx hsx => numbers_calls v s wx hsx hm.win (may_length hm))
    have hnl := numbers_length s
    have hml := may_length hm
    clear hm hs
    go_enter Tryd.func20, Tryd.ntmps20
    go_wp2_with fail
    refine HM.out.mono ?_
    rintro e w1 ⟨rfl, n, hw⟩
    have hb1 : Below w.heap.size w w1 := by rw [hw]; exact below_drewN (Below.refl _ _) n
    clear hw
    go_wp2_with fail
    refine (HN.out w1 (HSA.out.below hb1)).mono ?_
    rintro e w2 ⟨u, m, rfl, hown, hb2⟩
    have hb3 := hb1.trans (hb2.mono hb1.size)
    obtain ⟨ao, cap, rfl, hl, _, _⟩ := intsAt_of_owns hown (by omega)
    clear hown hb2
    go_wp2
    go_ret2
    exact ⟨rfl, hb3⟩
  · rw [decide_eq_false hm] at HM
    rw [if_neg hm, if_neg hm]
    clear hm
    go_enter Tryd.func20, Tryd.ntmps20
    go_wp2_with fail
    refine HM.out.mono ?_
    rintro e w1 ⟨rfl, n, hw⟩
    have hb1 : Below w.heap.size w w1 := by rw [hw]; exact below_drewN (Below.refl _ _) n
    clear hw
    go_wp2
    go_ret2
    exact ⟨rfl, hb1⟩

/-- what Has answers -/
def hasS (s : List Wd) (n : Int) : Bool × Int := if MayW s then (if 0 ≤ n ∧ n < 1048576 then (inS s n, 0) else (false, 2)) else (false, 8)
theorem has_calls (v : Value) (s : List Wd) (n : Int) (w : World) (hs : SetAt w v s) (hok : ∀ x ∈ s, WdOk x) :
    Calls Tryd.prog 19 #[v, .int .i64 n] w fun e w' => e = .returned (.tuple #[.bool (hasS s n).1, .int .i64 (hasS s n).2]) ∧ Below w.heap.size w w' := by
  have HM := hid (may_w v s w hs hok)
  have HSA := hid hs
  have hnot : ∀ (x : Bool) (w : World), (Op.unary .not (.bool x)).run Tryd.prog w = .ok (.bool (!x)) w := fun _ _ => rfl
  by_cases hm : MayW s
  · rw [decide_eq_true hm] at HM
    by_cases h0 : n < 0
    · have hh : hasS s n = (false, 2) := by unfold hasS; rw [if_pos hm, if_neg (by omega)]
      rw [hh]
      clear hm hs hh
      go_enter Tryd.func19, Tryd.ntmps19
      go_wp2_with fail
      refine HM.out.mono ?_
      rintro e w1 ⟨rfl, k, hw⟩
      have hb1 : Below w.heap.size w w1 := by rw [hw]; exact below_drewN (Below.refl _ _) k
      clear hw
      go_wp2
      go_ret2
      exact ⟨rfl, hb1⟩
    by_cases h1 : 1048576 ≤ n
    · have hh : hasS s n = (false, 2) := by unfold hasS; rw [if_pos hm, if_neg (by omega)]
      rw [hh]
      clear hm hs hh
      go_enter Tryd.func19, Tryd.ntmps19
      go_wp2_with fail
      refine HM.out.mono ?_
      rintro e w1 ⟨rfl, k, hw⟩
      have hb1 : Below w.heap.size w w1 := by rw [hw]; exact below_drewN (Below.refl _ _) k
      clear hw
      go_wp2
      go_ret2
      exact ⟨rfl, hb1⟩
    have hh : hasS s n = (inS s n, 0) := by unfold hasS; rw [if_pos hm, if_pos (by omega)]
    rw [hh]
    have HN := hid (fun wx hsx => in_calls v s n (by omega) (by omega) wx hsx hok)
    clear hm hs hh
    go_enter Tryd.func19, Tryd.ntmps19
    go_wp2_with fail
    refine HM.out.mono ?_
    rintro e w1 ⟨rfl, k, hw⟩
    have hb1 : Below w.heap.size w w1 := by rw [hw]; exact below_drewN (Below.refl _ _) k
    clear hw
    go_wp2_with fail
    refine (HN.out w1 (HSA.out.below hb1)).mono ?_
    rintro e w2 ⟨rfl, k2, hw2⟩
    have hb2 : Below w.heap.size w w2 := by rw [hw2]; exact below_drewN hb1 k2
    clear hw2
    go_wp2
    go_ret2
    exact ⟨rfl, hb2⟩
  · rw [decide_eq_false hm] at HM
    have hh : hasS s n = (false, 8) := by unfold hasS; rw [if_neg hm]
    rw [hh]
    clear hm hs hh
    go_enter Tryd.func19, Tryd.ntmps19
    go_wp2_with fail
    refine HM.out.mono ?_
    rintro e w1 ⟨rfl, k, hw⟩
    have hb1 : Below w.heap.size w w1 := by rw [hw]; exact below_drewN (Below.refl _ _) k
    clear hw
    go_wp2
    go_ret2
    exact ⟨rfl, hb1⟩
end Go.Proofs.YtecfjjpdlohmnaaDoor.SetC
