/- Walks over the package calc itself: may, valued, truth, ask, Do, Check, First, Fits. -/
import Derived.Test.YtdbljknpdhpmeaaCaRb
import Derived.Outline
import Derived.Deep.Cut
namespace Go.Proofs.Ytdbljknpdhpmeaa.CcA
open Go.RowKit Go.Lib SetP CaM CaK CaR NumP

theorem truth_calls (b : Bool) (w : World) : Calls Try.prog 24 #[.bool b] w fun e w' => e = .returned (.int .i64 (if b = true then 1 else 0)) ∧ w = w' := by
  cases b <;>
  · go_enter Try.func24, Try.ntmps24
    go_wp2
    go_ret
    exact ⟨rfl, rfl⟩
/-- a kind of value, out of a scalar's -/
def kindV (k : Int) : Int := if 1 ≤ k ∧ k ≤ 3 then k else 0
def PairR (a b : Int) (w : World) (e : Ending) (w' : World) : Prop := e = .returned (.tuple #[.int .u8 a, .int .i64 b]) ∧ w = w'
set_option maxHeartbeats 1000000 in
theorem valued_calls (k : Int) (w : World) (h0 : 0 ≤ k) (h1 : k ≤ 255) : Calls Try.prog 20 #[.int .u8 k] w (PairR (kindV k) (firstE k) w) := by
  have hk : k = 1 ∨ k = 2 ∨ k = 3 ∨ (k < 1 ∨ 3 < k) := by omega
  rcases hk with rfl | rfl | rfl | hk
  · rw [show kindV 1 = 1 from rfl, show firstE 1 = 0 from rfl]
    go_enter Try.func20, Try.ntmps20
    go_wp2
    all_goals first | (exfalso; omega) | (go_ret2; exact ⟨rfl, rfl⟩)
  · rw [show kindV 2 = 2 from rfl, show firstE 2 = 0 from rfl]
    go_enter Try.func20, Try.ntmps20
    go_wp2
    all_goals first | (exfalso; omega) | (go_ret2; exact ⟨rfl, rfl⟩)
  · rw [show kindV 3 = 3 from rfl, show firstE 3 = 0 from rfl]
    go_enter Try.func20, Try.ntmps20
    go_wp2
    all_goals first | (exfalso; omega) | (go_ret2; exact ⟨rfl, rfl⟩)
  · rw [show kindV k = 0 from if_neg (by omega), show firstE k = 2 from if_neg (by omega)]
    have b1 : ¬ k = 1 := by omega
    have b2 : ¬ k = 2 := by omega
    have b3 : ¬ k = 3 := by omega
    clear hk
    go_enter Try.func20, Try.ntmps20
    go_wp2
    all_goals first | (exfalso; omega) | (go_ret2; exact ⟨rfl, rfl⟩)
theorem may_yes {k n c t : Int} (h : k = 1 ∧ c = 0 ∧ t = 0 ∨ k = 2 ∧ n = 0 ∧ (c = 0 ∧ t = 0 ∨ 0 < c ∧ 0 ≤ t) ∨ k = 3 ∧ c = 0 ∧ t = 0 ∧ 0 ≤ n ∧ n ≤ 8) : mayV ⟨k, n, c, t⟩ = true := by
  unfold mayV
  rcases h with ⟨rfl, rfl, rfl⟩ | ⟨rfl, rfl, ⟨rfl, rfl⟩ | ⟨h1, h2⟩⟩ | ⟨rfl, rfl, rfl, h1, h2⟩
  · rfl
  · rfl
  · simp [h1, h2]
  · simp [h1, h2]
theorem may_no {k n c t : Int} (h : ¬ (k = 1 ∧ c = 0 ∧ t = 0 ∨ k = 2 ∧ n = 0 ∧ (c = 0 ∧ t = 0 ∨ 0 < c ∧ 0 ≤ t) ∨ k = 3 ∧ c = 0 ∧ t = 0 ∧ 0 ≤ n ∧ n ≤ 8)) : mayV ⟨k, n, c, t⟩ = false := by
  cases hb : mayV ⟨k, n, c, t⟩ with
  | false => rfl
  | true =>
    refine absurd ?_ h
    unfold mayV at hb
    by_cases h1 : k = 1
    · rw [if_pos h1] at hb
      simp at hb
      omega
    · rw [if_neg h1] at hb
      by_cases h2 : k = 2
      · rw [if_pos h2] at hb
        simp at hb
        omega
      · rw [if_neg h2] at hb
        by_cases h3 : k = 3
        · rw [if_pos h3] at hb
          simp at hb
          omega
        · rw [if_neg h3] at hb
          cases hb
set_option maxRecDepth 100000 in
set_option maxHeartbeats 8000000 in
theorem may_calls (x : Vx) (w : World) (_ : VxOk x) : Calls Try.prog 21 #[valV x] w (TestR (mayV x) w) := by
  obtain ⟨k, n, c, t⟩ := x
  have HB := hid (alloc_below w (.cells #[.int .u8 k, .int .i64 n, .int .i64 c, .int .i64 t] 26))
  have l0 : (w.alloc (.cells #[.int .u8 k, .int .i64 n, .int .i64 c, .int .i64 t] 26)).cell? ⟨w.heap.size, 0, none⟩ = some (.int .u8 k) := by simp
  have l1 : (w.alloc (.cells #[.int .u8 k, .int .i64 n, .int .i64 c, .int .i64 t] 26)).cell? ⟨w.heap.size, 1, none⟩ = some (.int .i64 n) := by simp
  have l2 : (w.alloc (.cells #[.int .u8 k, .int .i64 n, .int .i64 c, .int .i64 t] 26)).cell? ⟨w.heap.size, 2, none⟩ = some (.int .i64 c) := by simp
  have l3 : (w.alloc (.cells #[.int .u8 k, .int .i64 n, .int .i64 c, .int .i64 t] 26)).cell? ⟨w.heap.size, 3, none⟩ = some (.int .i64 t) := by simp
  obtain ⟨W, hW⟩ : ∃ W, W = w.alloc (.cells #[.int .u8 k, .int .i64 n, .int .i64 c, .int .i64 t] 26) := ⟨_, rfl⟩
  rw [← hW] at l0 l1 l2 l3 HB
  have HW := hid hW
  clear hW
  by_cases h1 : k = 1
  · have h1b : (k == 1) = true := by simpa using h1
    by_cases g4 : c = 0
    · have g4b : (c == 0) = true := by simpa using g4
      by_cases g6 : t = 0
      · have g6b : (t == 0) = true := by simpa using g6
        rw [show mayV ⟨k, n, c, t⟩ = true from by apply may_yes; omega]
        clear h1 g4 g6
        show Calls _ _ #[.agg #[.int .u8 k, .int .i64 n, .int .i64 c, .int .i64 t]] w _
        go_enter Try.func21, Try.ntmps21
        go_upto_region 1 with fail
        rw [← HW.out]
        go_wp2
        all_goals first | (exfalso; omega) | (go_ret; exact ⟨rfl, HB.out⟩)
      · have g6b : (t == 0) = false := by simpa using g6
        rw [show mayV ⟨k, n, c, t⟩ = false from by apply may_no; omega]
        clear h1 g4 g6
        show Calls _ _ #[.agg #[.int .u8 k, .int .i64 n, .int .i64 c, .int .i64 t]] w _
        go_enter Try.func21, Try.ntmps21
        go_upto_region 1 with fail
        rw [← HW.out]
        go_wp2
        all_goals first | (exfalso; omega) | (go_ret; exact ⟨rfl, HB.out⟩)
    · have g4b : (c == 0) = false := by simpa using g4
      rw [show mayV ⟨k, n, c, t⟩ = false from by apply may_no; omega]
      clear h1 g4
      show Calls _ _ #[.agg #[.int .u8 k, .int .i64 n, .int .i64 c, .int .i64 t]] w _
      go_enter Try.func21, Try.ntmps21
      go_upto_region 1 with fail
      rw [← HW.out]
      go_wp2
      all_goals first | (exfalso; omega) | (go_ret; exact ⟨rfl, HB.out⟩)
  have h1b : (k == 1) = false := by simpa using h1
  by_cases h2 : k = 2
  · have h2b : (k == 2) = true := by simpa using h2
    by_cases g4 : n = 0
    · have g4b : (n == 0) = true := by simpa using g4
      by_cases g6 : 0 ≤ c
      · have g6b : decide (0 ≤ c) = true := decide_eq_true g6
        by_cases g8 : 0 ≤ t
        · have g8b : decide (0 ≤ t) = true := decide_eq_true g8
          by_cases g10 : 0 < c
          · have g10b : decide (0 < c) = true := decide_eq_true g10
            rw [show mayV ⟨k, n, c, t⟩ = true from by apply may_yes; omega]
            clear h1 h2 g4
            show Calls _ _ #[.agg #[.int .u8 k, .int .i64 n, .int .i64 c, .int .i64 t]] w _
            go_enter Try.func21, Try.ntmps21
            go_upto_region 1 with fail
            rw [← HW.out]
            go_wp2
            all_goals first | (exfalso; omega) | (go_ret; exact ⟨rfl, HB.out⟩)
          · have g10b : decide (0 < c) = false := decide_eq_false g10
            by_cases g10x : t = 0
            · have g10xb : (t == 0) = true := by simpa using g10x
              rw [show mayV ⟨k, n, c, t⟩ = true from by apply may_yes; omega]
              clear h1 h2 g4 g10x
              show Calls _ _ #[.agg #[.int .u8 k, .int .i64 n, .int .i64 c, .int .i64 t]] w _
              go_enter Try.func21, Try.ntmps21
              go_upto_region 1 with fail
              rw [← HW.out]
              go_wp2
              all_goals first | (exfalso; omega) | (go_ret; exact ⟨rfl, HB.out⟩)
            · have g10xb : (t == 0) = false := by simpa using g10x
              rw [show mayV ⟨k, n, c, t⟩ = false from by apply may_no; omega]
              clear h1 h2 g4 g10x
              show Calls _ _ #[.agg #[.int .u8 k, .int .i64 n, .int .i64 c, .int .i64 t]] w _
              go_enter Try.func21, Try.ntmps21
              go_upto_region 1 with fail
              rw [← HW.out]
              go_wp2
              all_goals first | (exfalso; omega) | (go_ret; exact ⟨rfl, HB.out⟩)
        · have g8b : decide (0 ≤ t) = false := decide_eq_false g8
          rw [show mayV ⟨k, n, c, t⟩ = false from by apply may_no; omega]
          clear h1 h2 g4
          show Calls _ _ #[.agg #[.int .u8 k, .int .i64 n, .int .i64 c, .int .i64 t]] w _
          go_enter Try.func21, Try.ntmps21
          go_upto_region 1 with fail
          rw [← HW.out]
          go_wp2
          all_goals first | (exfalso; omega) | (go_ret; exact ⟨rfl, HB.out⟩)
      · have g6b : decide (0 ≤ c) = false := decide_eq_false g6
        rw [show mayV ⟨k, n, c, t⟩ = false from by apply may_no; omega]
        clear h1 h2 g4
        show Calls _ _ #[.agg #[.int .u8 k, .int .i64 n, .int .i64 c, .int .i64 t]] w _
        go_enter Try.func21, Try.ntmps21
        go_upto_region 1 with fail
        rw [← HW.out]
        go_wp2
        all_goals first | (exfalso; omega) | (go_ret; exact ⟨rfl, HB.out⟩)
    · have g4b : (n == 0) = false := by simpa using g4
      rw [show mayV ⟨k, n, c, t⟩ = false from by apply may_no; omega]
      clear h1 h2 g4
      show Calls _ _ #[.agg #[.int .u8 k, .int .i64 n, .int .i64 c, .int .i64 t]] w _
      go_enter Try.func21, Try.ntmps21
      go_upto_region 1 with fail
      rw [← HW.out]
      go_wp2
      all_goals first | (exfalso; omega) | (go_ret; exact ⟨rfl, HB.out⟩)
  have h2b : (k == 2) = false := by simpa using h2
  by_cases h3 : k = 3
  · have h3b : (k == 3) = true := by simpa using h3
    by_cases g4 : 0 ≤ n
    · have g4b : decide (0 ≤ n) = true := decide_eq_true g4
      by_cases g6 : n ≤ 8
      · have g6b : decide (n ≤ 8) = true := decide_eq_true g6
        by_cases g8 : c = 0
        · have g8b : (c == 0) = true := by simpa using g8
          by_cases g10 : t = 0
          · have g10b : (t == 0) = true := by simpa using g10
            rw [show mayV ⟨k, n, c, t⟩ = true from by apply may_yes; omega]
            clear h1 h2 h3 g8 g10
            show Calls _ _ #[.agg #[.int .u8 k, .int .i64 n, .int .i64 c, .int .i64 t]] w _
            go_enter Try.func21, Try.ntmps21
            go_upto_region 1 with fail
            rw [← HW.out]
            go_wp2
            all_goals first | (exfalso; omega) | (go_ret; exact ⟨rfl, HB.out⟩)
          · have g10b : (t == 0) = false := by simpa using g10
            rw [show mayV ⟨k, n, c, t⟩ = false from by apply may_no; omega]
            clear h1 h2 h3 g8 g10
            show Calls _ _ #[.agg #[.int .u8 k, .int .i64 n, .int .i64 c, .int .i64 t]] w _
            go_enter Try.func21, Try.ntmps21
            go_upto_region 1 with fail
            rw [← HW.out]
            go_wp2
            all_goals first | (exfalso; omega) | (go_ret; exact ⟨rfl, HB.out⟩)
        · have g8b : (c == 0) = false := by simpa using g8
          rw [show mayV ⟨k, n, c, t⟩ = false from by apply may_no; omega]
          clear h1 h2 h3 g8
          show Calls _ _ #[.agg #[.int .u8 k, .int .i64 n, .int .i64 c, .int .i64 t]] w _
          go_enter Try.func21, Try.ntmps21
          go_upto_region 1 with fail
          rw [← HW.out]
          go_wp2
          all_goals first | (exfalso; omega) | (go_ret; exact ⟨rfl, HB.out⟩)
      · have g6b : decide (n ≤ 8) = false := decide_eq_false g6
        rw [show mayV ⟨k, n, c, t⟩ = false from by apply may_no; omega]
        clear h1 h2 h3
        show Calls _ _ #[.agg #[.int .u8 k, .int .i64 n, .int .i64 c, .int .i64 t]] w _
        go_enter Try.func21, Try.ntmps21
        go_upto_region 1 with fail
        rw [← HW.out]
        go_wp2
        all_goals first | (exfalso; omega) | (go_ret; exact ⟨rfl, HB.out⟩)
    · have g4b : decide (0 ≤ n) = false := decide_eq_false g4
      rw [show mayV ⟨k, n, c, t⟩ = false from by apply may_no; omega]
      clear h1 h2 h3
      show Calls _ _ #[.agg #[.int .u8 k, .int .i64 n, .int .i64 c, .int .i64 t]] w _
      go_enter Try.func21, Try.ntmps21
      go_upto_region 1 with fail
      rw [← HW.out]
      go_wp2
      all_goals first | (exfalso; omega) | (go_ret; exact ⟨rfl, HB.out⟩)
  have h3b : (k == 3) = false := by simpa using h3
  rw [show mayV ⟨k, n, c, t⟩ = false from by apply may_no; omega]
  clear h1 h2 h3
  show Calls _ _ #[.agg #[.int .u8 k, .int .i64 n, .int .i64 c, .int .i64 t]] w _
  go_enter Try.func21, Try.ntmps21
  go_upto_region 1 with fail
  rw [← HW.out]
  go_wp2
  all_goals first | (exfalso; omega) | (go_ret; exact ⟨rfl, HB.out⟩)
end Go.Proofs.Ytdbljknpdhpmeaa.CcA
