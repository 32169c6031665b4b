/- Walk over fescueref02.May. -/
import Derived.Test.YtecfjjpdlohmnaaDoorSetP
import Derived.Deep.LoopGhost
import Derived.Deep.QuietTactic
import Derived.BigQuiet
namespace Go.Proofs.YtecfjjpdlohmnaaDoor.SetMay
open Go.RowKit Go.Lib SetP

/-- may the word at i stand there? -/
def badAt (s : List Wd) (i : Nat) : Bool :=
  match s[i]? with
  | none => false
  | some x => decide (x.1 < 0) || decide (16384 ≤ x.1) || decide (x.2 = 0) || (decide (0 < i) && decide (x.1 ≤ (s[i - 1]?.getD (0, 0)).1))

set_option maxHeartbeats 400000 in
theorem may_calls (v : Value) (s : List Wd) (w : World) (hs : SetAt w v s) :
    Calls Tryd.prog 32 #[v] w fun e w' => e = .returned (.bool (decide (∀ i, i < s.length → badAt s i = false))) ∧ ∃ n, w' = w.drewN n := by
  obtain ⟨ao, cap, rfl, hl, hm, _⟩ := hs
  go_enter Tryd.func32, Tryd.ntmps32
  go_wp2
  go_loopg [3] s.length (fun g i wr => ∃ k : Nat, k + g = s.length ∧ i = .int .i64 k ∧ (∀ j, j < k → badAt s j = false) ∧ ∃ n, wr = w.drewN n)
  case atStart => exact ⟨0, by omega, rfl, by omega, 0, rfl⟩
  case round =>
    obtain ⟨k, hk, rfl, hg, n, rfl⟩ := hrel
    have HG := hid hg
    clear hg
    by_cases hlt : k < s.length
    · obtain ⟨b, off, rfl, hbs, hc⟩ := hm (by omega)
      have c0 := (hc k hlt).1
      have c1 := (hc k hlt).2
      have cp : 0 < k → w.cell? ⟨b, off + (k - 1) * 2, none⟩ = some (.int .i64 (s[k - 1]?.getD (0, 0)).1) := by
        intro h0
        rw [(hc (k - 1) (by omega)).1, List.getElem?_eq_getElem (by omega)]; rfl
      have hbad : badAt s k = (decide (s[k].1 < 0) || decide (16384 ≤ s[k].1) || decide (s[k].2 = 0) || (decide (0 < k) && decide (s[k].1 ≤ (s[k - 1]?.getD (0, 0)).1))) := by
        unfold badAt; rw [List.getElem?_eq_getElem hlt]
      have HC := hid hm
      clear hc hm
      generalize s[k].1 = x at *
      generalize s[k].2 = y at *
      generalize (s[k - 1]?.getD (0, 0)).1 = p at *
      have HB := hid hbad
      clear hbad
      have hno : badAt s k = true → Ending.returned (.bool false) = .returned (.bool (decide (∀ i, i < s.length → badAt s i = false))) := by
        intro h
        rw [decide_eq_false]
        intro hall
        rw [hall k hlt] at h; cases h
      have HN := hid hno
      clear hno
      by_cases h1 : x < 0
      · have hd1 : decide (x < 0) = true := by simpa using h1
        go_wp2
        go_quiet (fail)
        go_wp2
        go_ret
        exact ⟨HN.out (by rw [HB.out]; simp [h1]), _, World.drewN_drewN _ _ _⟩
      have hd1 : decide (x < 0) = false := by simpa using h1
      by_cases h2 : 16384 ≤ x
      · have hd2 : decide (16384 ≤ x) = true := by simpa using h2
        go_wp2
        go_quiet (fail)
        go_wp2
        go_ret
        exact ⟨HN.out (by rw [HB.out]; simp [h2]), _, World.drewN_drewN _ _ _⟩
      have hd2 : decide (16384 ≤ x) = false := by simp; omega
      by_cases h3 : y = 0
      · have hd3 : (y == 0) = true := by simpa using h3
        have HB3 := hid (HN.out (by rw [HB.out]; simp [h3]))
        clear h3
        go_wp2
        go_quiet (fail)
        go_wp2
        go_ret
        exact ⟨HB3.out, _, World.drewN_drewN _ _ _⟩
      have hd3 : (y == 0) = false := by simpa using h3
      by_cases h4 : 0 < k
      · have hd4 : decide (0 < (k : Int)) = true := by simp; omega
        have c2 := cp h4
        by_cases h5 : x ≤ p
        · have hd5 : decide (x ≤ p) = true := by simpa using h5
          go_wp2
          go_quiet (fail)
          go_wp2
          go_ret
          exact ⟨HN.out (by rw [HB.out]; simp [h4, h5]), _, World.drewN_drewN _ _ _⟩
        · have hd5 : decide (x ≤ p) = false := by simpa using h5
          go_wp2
          go_quiet (fail)
          go_wp2
          go_roundg (gk - 1)
          case measure => omega
          case rel => exact ⟨k + 1, by omega, by go_num, (fun j hj => by
            rcases Nat.lt_succ_iff_lt_or_eq.1 hj with h | rfl
            · exact HG.out j h
            · rw [HB.out]; simp [h1, h2, h3, h5]), _, rfl⟩
      · have hd4 : decide (0 < (k : Int)) = false := by simp; omega
        go_wp2
        go_quiet (fail)
        go_wp2
        go_roundg (gk - 1)
        case measure => omega
        case rel => exact ⟨k + 1, by omega, by go_num, (fun j hj => by
          rcases Nat.lt_succ_iff_lt_or_eq.1 hj with h | rfl
          · exact HG.out j h
          · rw [HB.out]; simp [h1, h2, h3, h4]), _, rfl⟩
    · go_wp2
      go_ret
      refine ⟨?_, _, rfl⟩
      rw [decide_eq_true (fun i hi => HG.out i (by omega))]
      rfl
end Go.Proofs.YtecfjjpdlohmnaaDoor.SetMay
