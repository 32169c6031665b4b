/- Walks over fescueref02.Of. -/
import Derived.Test.YtecfjjpdlohmnaaSetFP
import Derived.Test.YtecfjjpdlohmnaaSetW2
import Derived.Test.YtecfjjpdlohmnaaSetMay
namespace Go.Proofs.Ytecfjjpdlohmnaa.SetF
open Go.RowKit Go.Lib SetP SetO SetNum SetIn SetWith SetT SetW2

set_option maxHeartbeats 1000000 in
theorem of_good (v : Value) (l : List Int) (w : World) (hl : IntsAt w v l) (hin : ∀ n ∈ l, 0 ≤ n ∧ n < 1048576) :
    Calls Try.prog 5 #[v] w (OwnSR (withAll [] l) 0 w) := by
  have HL := hid hl
  obtain ⟨ao, cap, rfl, hlen, hm, _⟩ := hl
  have HM := hid hm
  have HI := hid hin
  clear hm hin
  go_enter Try.func5, Try.ntmps5
  go_wp2
  go_loop [5] (fun i => ∃ k : Nat, k ≤ l.length ∧ i = .int .i64 k) (fun i => l.length - (intOf i).toNat)
  case atStart => exact ⟨0, by omega, rfl⟩
  case round =>
    obtain ⟨k, hk, rfl⟩ := hrel
    by_cases hlt : k < l.length
    · obtain ⟨b, off, rfl, hbs, hc⟩ := HM.out (by omega)
      have c0 := hc k hlt
      obtain ⟨n0, n1⟩ := HI.out _ (List.getElem_mem hlt)
      clear hc
      generalize l[k] = n at *
      go_wp2
      go_round
      case rel => exact ⟨k + 1, by omega, by go_num⟩
      case measure => simp [intOf]; omega
    · obtain rfl : k = l.length := by omega
      go_wp2
      go_loopg [4, 6] l.length (fun g o i wr => ∃ k m : Nat, k + g = l.length ∧ i = .int .i64 k ∧ wr.ownsRow w.heap.size 40 2 o m (wdVals (withAll [] (l.take k))) ∧ Below w.heap.size w wr)
      case atStart => exact ⟨0, 0, by omega, rfl, World.ownsRow_nil _ _ _ _, Below.refl _ _⟩
      case round =>
        obtain ⟨k, m, hk, rfl, hown, hbe⟩ := hrel
        by_cases hlt : k < l.length
        · obtain ⟨b, off, rfl, hbs, hc⟩ := HM.out (by omega)
          have c0 := (hbe.cell (p := ⟨b, off + k, none⟩) hbs).trans (hc k hlt)
          obtain ⟨n0, n1⟩ := HI.out _ (List.getElem_mem hlt)
          have HS := hid (withAll_succ [] hlt)
          have hmay := all_may (l.take k) mayw_nil (fun n hn => HI.out n (List.mem_of_mem_take hn))
          clear hc
          generalize l[k] = n at *
          generalize withAll [] (l.take k) = s at *
          have hsa := setAt_of_owns hown (by have := may_length hmay; omega)
          have HC := hid (with_calls u4 s n n0 n1 wr hsa hmay (may_length hmay))
          clear hsa hmay hown
          go_wp2_with fail
          refine HC.out.mono ?_
          rintro e w1 ⟨v1, m1, rfl, hown1, hb1⟩
          have hown2 := owns_base hown1 hbe.size
          have hbe1 := hbe.trans (hb1.mono hbe.size)
          clear hown1 hb1 hbe c0
          go_wp2
          go_roundg (gk - 1)
          case measure => omega
          case rel => exact ⟨k + 1, m1, by omega, by go_num, by rw [HS.out]; exact hown2, hbe1⟩
        · obtain rfl : k = l.length := by omega
          rw [List.take_length] at hown
          go_wp2
          go_ret2
          exact ⟨u4, m, rfl, hown, hbe⟩

theorem of_bad (v : Value) (l : List Int) (w : World) (hl : IntsAt w v l) (hin : ¬ ∀ n ∈ l, 0 ≤ n ∧ n < 1048576) :
    Calls Try.prog 5 #[v] w (OwnSR [] 2 w) := by
  obtain ⟨ao, cap, rfl, hlen, hm, _⟩ := hl
  have HM := hid hm
  have HI := hid hin
  clear hm hin
  go_enter Try.func5, Try.ntmps5
  go_wp2
  go_loop [5] (fun i => ∃ k : Nat, k ≤ l.length ∧ i = .int .i64 k ∧ ∀ n ∈ l.take k, 0 ≤ n ∧ n < 1048576) (fun i => l.length - (intOf i).toNat)
  case atStart => exact ⟨0, by omega, rfl, by simp⟩
  case round =>
    obtain ⟨k, hk, rfl, hg⟩ := hrel
    by_cases hlt : k < l.length
    · obtain ⟨b, off, rfl, hbs, hc⟩ := HM.out (by omega)
      have c0 := hc k hlt
      have HG : Hid (0 ≤ l[k] ∧ l[k] < 1048576 → ∀ n ∈ l.take (k + 1), 0 ≤ n ∧ n < 1048576) := by
        intro h n hn
        rw [List.take_succ_eq_append_getElem hlt] at hn
        rcases List.mem_append.1 hn with hn | hn
        · exact hg n hn
        · rw [List.mem_singleton.1 hn]; exact h
      clear hc hg
      generalize l[k] = n at *
      by_cases h1 : n < 0
      · go_wp2
        go_ret2
        exact ⟨_, 0, rfl, World.ownsRow_nil _ _ _ _, Below.refl _ _⟩
      by_cases h2 : 1048576 ≤ n
      · go_wp2
        go_ret2
        exact ⟨_, 0, rfl, World.ownsRow_nil _ _ _ _, Below.refl _ _⟩
      have HG2 := hid (HG.out ⟨by omega, by omega⟩)
      go_wp2
      go_round
      case rel => exact ⟨k + 1, by omega, by go_num, HG2.out⟩
      case measure => simp [intOf]; omega
    · obtain rfl : k = l.length := by omega
      rw [List.take_length] at hg
      exact absurd hg HI.out
end Go.Proofs.Ytecfjjpdlohmnaa.SetF
