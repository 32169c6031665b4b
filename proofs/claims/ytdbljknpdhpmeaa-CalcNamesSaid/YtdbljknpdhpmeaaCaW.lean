/- Walks over fescueref13.May, Check, First, Fits. -/
import Derived.Test.YtdbljknpdhpmeaaCaRb
import Derived.Outline
import Derived.Deep.Cut
namespace Go.Proofs.Ytdbljknpdhpmeaa.CaW
open Go.RowKit Go.Lib SetP CaM CaK CaR NumP

def KeepC (b : Nat) (k n c t : Int) (w : World) : Prop := w.cell? ⟨b, 0, none⟩ = some (.int .u8 k) ∧ w.cell? ⟨b, 1, none⟩ = some (.int .i64 n) ∧ w.cell? ⟨b, 2, none⟩ = some (.int .i64 c) ∧ w.cell? ⟨b, 3, none⟩ = some (.int .i64 t)
set_option maxRecDepth 100000 in
set_option maxHeartbeats 8000000 in
theorem may_calls (x : Vx) (w : World) (_ : VxOk x) : Calls Try.prog 23 #[valV x] w (TestR (mayV x) w) := by
  obtain ⟨k, n, c, t⟩ := x
  have HB := hid (alloc_below w (.cells #[.int .u8 k, .int .i64 n, .int .i64 c, .int .i64 t] 26))
  have l0 : (w.alloc (.cells #[.int .u8 k, .int .i64 n, .int .i64 c, .int .i64 t] 26)).cell? ⟨w.heap.size, 0, none⟩ = some (.int .u8 k) := by simp
  have l1 : (w.alloc (.cells #[.int .u8 k, .int .i64 n, .int .i64 c, .int .i64 t] 26)).cell? ⟨w.heap.size, 1, none⟩ = some (.int .i64 n) := by simp
  have l2 : (w.alloc (.cells #[.int .u8 k, .int .i64 n, .int .i64 c, .int .i64 t] 26)).cell? ⟨w.heap.size, 2, none⟩ = some (.int .i64 c) := by simp
  have l3 : (w.alloc (.cells #[.int .u8 k, .int .i64 n, .int .i64 c, .int .i64 t] 26)).cell? ⟨w.heap.size, 3, none⟩ = some (.int .i64 t) := by simp
  obtain ⟨W, hW⟩ : ∃ W, W = w.alloc (.cells #[.int .u8 k, .int .i64 n, .int .i64 c, .int .i64 t] 26) := ⟨_, rfl⟩
  rw [← hW] at l0 l1 l2 l3 HB
  have HW := hid hW
  clear hW
  by_cases h1 : k = 1
  · have h1b : (k == 1) = true := by simpa using h1
    by_cases hc : c = 0
    · have hcb : (c == 0) = true := by simpa using hc
      have hcz : decide (0 < c) = false := decide_eq_false (by omega)
      by_cases ht : t = 0
      · have htb : (t == 0) = true := by simpa using ht
        have HM : Hid (mayV ⟨k, n, c, t⟩ = true) := by show mayV _ = _; simp [mayV, *]
        rw [HM.out]
        clear HM h1 hc ht
        show Calls _ _ #[.agg #[.int .u8 k, .int .i64 n, .int .i64 c, .int .i64 t]] w _
        go_enter Try.func23, Try.ntmps23
        go_upto_region 1 with fail
        rw [← HW.out]
        go_wp2
        all_goals first | (exfalso; omega) | (go_ret; exact ⟨rfl, HB.out⟩)
      · have htb : (t == 0) = false := by simpa using ht
        have HM : Hid (mayV ⟨k, n, c, t⟩ = false) := by show mayV _ = _; simp [mayV, *]
        rw [HM.out]
        clear HM h1 hc ht
        show Calls _ _ #[.agg #[.int .u8 k, .int .i64 n, .int .i64 c, .int .i64 t]] w _
        go_enter Try.func23, Try.ntmps23
        go_upto_region 1 with fail
        rw [← HW.out]
        go_wp2
        all_goals first | (exfalso; omega) | (go_ret; exact ⟨rfl, HB.out⟩)
    · have hcb : (c == 0) = false := by simpa using hc
      have HM : Hid (mayV ⟨k, n, c, t⟩ = false) := by show mayV _ = _; simp [mayV, *]
      rw [HM.out]
      clear HM h1 hc
      show Calls _ _ #[.agg #[.int .u8 k, .int .i64 n, .int .i64 c, .int .i64 t]] w _
      go_enter Try.func23, Try.ntmps23
      go_upto_region 1 with fail
      rw [← HW.out]
      go_wp2
      all_goals first | (exfalso; omega) | (go_ret; exact ⟨rfl, HB.out⟩)
  · have h1b : (k == 1) = false := by simpa using h1
    by_cases h2 : k = 2
    · have h2b : (k == 2) = true := by simpa using h2
      by_cases hn : n = 0
      · have hnb : (n == 0) = true := by simpa using hn
        by_cases hc : c = 0
        · have hcb : (c == 0) = true := by simpa using hc
          have hcz : decide (0 < c) = false := decide_eq_false (by omega)
          by_cases ht : t = 0
          · have htb : (t == 0) = true := by simpa using ht
            have HM : Hid (mayV ⟨k, n, c, t⟩ = true) := by show mayV _ = _; simp [mayV, *]
            rw [HM.out]
            clear HM h1 h2 hn hc ht
            show Calls _ _ #[.agg #[.int .u8 k, .int .i64 n, .int .i64 c, .int .i64 t]] w _
            go_enter Try.func23, Try.ntmps23
            go_upto_region 1 with fail
            rw [← HW.out]
            go_wp2
            all_goals first | (exfalso; omega) | (go_ret; exact ⟨rfl, HB.out⟩)
          · have htb : (t == 0) = false := by simpa using ht
            have HM : Hid (mayV ⟨k, n, c, t⟩ = false) := by show mayV _ = _; simp [mayV, *]
            rw [HM.out]
            clear HM h1 h2 hn hc ht
            show Calls _ _ #[.agg #[.int .u8 k, .int .i64 n, .int .i64 c, .int .i64 t]] w _
            go_enter Try.func23, Try.ntmps23
            go_upto_region 1 with fail
            rw [← HW.out]
            go_wp2
            all_goals first | (exfalso; omega) | (go_ret; exact ⟨rfl, HB.out⟩)
        · have hcb : (c == 0) = false := by simpa using hc
          by_cases hp : 0 < c
          · have hpd : decide (0 < c) = true := decide_eq_true hp
            by_cases hq : 0 ≤ t
            · have hqd : decide (0 ≤ t) = true := decide_eq_true hq
              have HM : Hid (mayV ⟨k, n, c, t⟩ = true) := by show mayV _ = _; simp [mayV, *]
              rw [HM.out]
              clear HM h1 h2 hn hc
              show Calls _ _ #[.agg #[.int .u8 k, .int .i64 n, .int .i64 c, .int .i64 t]] w _
              go_enter Try.func23, Try.ntmps23
              go_upto_region 1 with fail
              rw [← HW.out]
              go_wp2
              all_goals first | (exfalso; omega) | (go_ret; exact ⟨rfl, HB.out⟩)
            · have hqd : decide (0 ≤ t) = false := decide_eq_false hq
              have HM : Hid (mayV ⟨k, n, c, t⟩ = false) := by show mayV _ = _; simp [mayV, *]
              rw [HM.out]
              clear HM h1 h2 hn hc
              show Calls _ _ #[.agg #[.int .u8 k, .int .i64 n, .int .i64 c, .int .i64 t]] w _
              go_enter Try.func23, Try.ntmps23
              go_upto_region 1 with fail
              rw [← HW.out]
              go_wp2
              all_goals first | (exfalso; omega) | (go_ret; exact ⟨rfl, HB.out⟩)
          · have hpd : decide (0 < c) = false := decide_eq_false hp
            have HM : Hid (mayV ⟨k, n, c, t⟩ = false) := by show mayV _ = _; simp [mayV, *]
            rw [HM.out]
            clear HM h1 h2 hn hc
            show Calls _ _ #[.agg #[.int .u8 k, .int .i64 n, .int .i64 c, .int .i64 t]] w _
            go_enter Try.func23, Try.ntmps23
            go_upto_region 1 with fail
            rw [← HW.out]
            go_wp2
            all_goals first | (exfalso; omega) | (go_ret; exact ⟨rfl, HB.out⟩)
      · have hnb : (n == 0) = false := by simpa using hn
        have HM : Hid (mayV ⟨k, n, c, t⟩ = false) := by show mayV _ = _; simp [mayV, *]
        rw [HM.out]
        clear HM h1 h2 hn
        show Calls _ _ #[.agg #[.int .u8 k, .int .i64 n, .int .i64 c, .int .i64 t]] w _
        go_enter Try.func23, Try.ntmps23
        go_upto_region 1 with fail
        rw [← HW.out]
        go_wp2
        all_goals first | (exfalso; omega) | (go_ret; exact ⟨rfl, HB.out⟩)
    · have h2b : (k == 2) = false := by simpa using h2
      by_cases h3 : k = 3
      · have h3b : (k == 3) = true := by simpa using h3
        by_cases hc : c = 0
        · have hcb : (c == 0) = true := by simpa using hc
          have hcz : decide (0 < c) = false := decide_eq_false (by omega)
          by_cases ht : t = 0
          · have htb : (t == 0) = true := by simpa using ht
            by_cases hp : 0 ≤ n
            · have hpd : decide (0 ≤ n) = true := decide_eq_true hp
              by_cases hq : n ≤ 8
              · have hqd : decide (n ≤ 8) = true := decide_eq_true hq
                have HM : Hid (mayV ⟨k, n, c, t⟩ = true) := by show mayV _ = _; simp [mayV, *]
                rw [HM.out]
                clear HM h1 h2 h3 hc ht
                show Calls _ _ #[.agg #[.int .u8 k, .int .i64 n, .int .i64 c, .int .i64 t]] w _
                go_enter Try.func23, Try.ntmps23
                go_upto_region 1 with fail
                rw [← HW.out]
                go_wp2
                all_goals first | (exfalso; omega) | (go_ret; exact ⟨rfl, HB.out⟩)
              · have hqd : decide (n ≤ 8) = false := decide_eq_false hq
                have HM : Hid (mayV ⟨k, n, c, t⟩ = false) := by show mayV _ = _; simp [mayV, *]
                rw [HM.out]
                clear HM h1 h2 h3 hc ht
                show Calls _ _ #[.agg #[.int .u8 k, .int .i64 n, .int .i64 c, .int .i64 t]] w _
                go_enter Try.func23, Try.ntmps23
                go_upto_region 1 with fail
                rw [← HW.out]
                go_wp2
                all_goals first | (exfalso; omega) | (go_ret; exact ⟨rfl, HB.out⟩)
            · have hpd : decide (0 ≤ n) = false := decide_eq_false hp
              have HM : Hid (mayV ⟨k, n, c, t⟩ = false) := by show mayV _ = _; simp [mayV, *]
              rw [HM.out]
              clear HM h1 h2 h3 hc ht
              show Calls _ _ #[.agg #[.int .u8 k, .int .i64 n, .int .i64 c, .int .i64 t]] w _
              go_enter Try.func23, Try.ntmps23
              go_upto_region 1 with fail
              rw [← HW.out]
              go_wp2
              all_goals first | (exfalso; omega) | (go_ret; exact ⟨rfl, HB.out⟩)
          · have htb : (t == 0) = false := by simpa using ht
            have HM : Hid (mayV ⟨k, n, c, t⟩ = false) := by show mayV _ = _; simp [mayV, *]
            rw [HM.out]
            clear HM h1 h2 h3 hc ht
            show Calls _ _ #[.agg #[.int .u8 k, .int .i64 n, .int .i64 c, .int .i64 t]] w _
            go_enter Try.func23, Try.ntmps23
            go_upto_region 1 with fail
            rw [← HW.out]
            go_wp2
            all_goals first | (exfalso; omega) | (go_ret; exact ⟨rfl, HB.out⟩)
        · have hcb : (c == 0) = false := by simpa using hc
          have HM : Hid (mayV ⟨k, n, c, t⟩ = false) := by show mayV _ = _; simp [mayV, *]
          rw [HM.out]
          clear HM h1 h2 h3 hc
          show Calls _ _ #[.agg #[.int .u8 k, .int .i64 n, .int .i64 c, .int .i64 t]] w _
          go_enter Try.func23, Try.ntmps23
          go_upto_region 1 with fail
          rw [← HW.out]
          go_wp2
          all_goals first | (exfalso; omega) | (go_ret; exact ⟨rfl, HB.out⟩)
      · have h3b : (k == 3) = false := by simpa using h3
        have HM : Hid (mayV ⟨k, n, c, t⟩ = false) := by show mayV _ = _; simp [mayV, *]
        rw [HM.out]
        clear HM h1 h2 h3
        show Calls _ _ #[.agg #[.int .u8 k, .int .i64 n, .int .i64 c, .int .i64 t]] w _
        go_enter Try.func23, Try.ntmps23
        go_upto_region 1 with fail
        rw [← HW.out]
        go_wp2
        all_goals first | (exfalso; omega) | (go_ret; exact ⟨rfl, HB.out⟩)
end Go.Proofs.Ytdbljknpdhpmeaa.CaW
