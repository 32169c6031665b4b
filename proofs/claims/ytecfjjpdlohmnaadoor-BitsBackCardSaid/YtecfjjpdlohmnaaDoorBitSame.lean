/- Walks over slices.Equal at api.Set, and over bits.Same. -/
import Derived.Test.YtecfjjpdlohmnaaDoorSetSame
import Derived.Deep.LoopGhost
import Derived.Deep.QuietTactic
import Derived.BigQuiet
namespace Go.Proofs.YtecfjjpdlohmnaaDoor.BitSame
open Go.RowKit Go.Lib SetP SetSame

set_option maxHeartbeats 400000 in
theorem equal_calls (v u : Value) (s t : List Wd) (w : World) (hs : SetAt w v s) (ht : SetAt w u t) :
    Calls Tryd.prog 35 #[v, u] w fun e w' => e = .returned (.bool (decide (s = t))) ∧ ∃ m, w' = w.drewN m := by
  obtain ⟨ao, cap, rfl, hl, hm, _⟩ := hs
  obtain ⟨bo, cap2, rfl, hl2, hm2, _⟩ := ht
  by_cases hlen : s.length = t.length
  · have h0 : ((s.length : Int) != (t.length : Int)) = false := by simp; omega
    have HQ := hid (eq_upto hlen)
    have HL := hid hlen
    clear hlen
    go_enter Tryd.func35, Tryd.ntmps35
    go_wp2
    go_loopg [13] s.length (fun g i wr => ∃ k : Nat, k + g = s.length ∧ i = .int .i64 k ∧ (∀ j (h : j < s.length) (h2 : j < t.length), j < k → s[j] = t[j]) ∧ ∃ m, wr = w.drewN m)
    case atStart => exact ⟨0, by omega, rfl, by omega, 0, rfl⟩
    case round =>
      obtain ⟨k, hk, rfl, hg, m, hwr⟩ := hrel
      have HWR := hid hwr
      have HG := hid hg
      clear hwr hg
      by_cases hlt : k < s.length
      · have hlt2 : k < t.length := by have := HL.out; omega
        obtain ⟨b, off, rfl, hbs, hc⟩ := hm (by omega)
        obtain ⟨b2, off2, rfl, hbs2, hc2⟩ := hm2 (by omega)
        have c0 : wr.cell? ⟨b, off + k * 2, none⟩ = some (.int .i64 s[k].1) := by rw [HWR.out]; exact (hc k hlt).1
        have c1 : wr.cell? ⟨b, off + k * 2 + 1, none⟩ = some (.int .u64 s[k].2) := by rw [HWR.out]; exact (hc k hlt).2
        have d0 : wr.cell? ⟨b2, off2 + k * 2, none⟩ = some (.int .i64 t[k].1) := by rw [HWR.out]; exact (hc2 k hlt2).1
        have d1 : wr.cell? ⟨b2, off2 + k * 2 + 1, none⟩ = some (.int .u64 t[k].2) := by rw [HWR.out]; exact (hc2 k hlt2).2
        have HE : Hid (s[k] = t[k] → ∀ j (h : j < s.length) (h2 : j < t.length), j < k + 1 → s[j] = t[j]) := by
          intro he j h h2 hj
          rcases Nat.lt_succ_iff_lt_or_eq.1 hj with h3 | rfl
          · exact HG.out j h h2 h3
          · exact he
        have HN : Hid (s[k] ≠ t[k] → decide (s = t) = false) := by
          intro hne
          rw [decide_eq_false]
          intro e
          exact hne (HQ.out.1 e k hlt hlt2)
        clear hc hc2 hm hm2
        generalize s[k] = x at *
        generalize t[k] = y at *
        obtain ⟨x1, x2⟩ := x
        obtain ⟨y1, y2⟩ := y
        simp only at c0 c1 d0 d1
        have hnq := neq_wd x1 x2 y1 y2
        have hgd := wdGuard
        by_cases hxy : (x1, x2) = (y1, y2)
        · have hd1 : (x1 == y1) = true := by simp; exact congrArg Prod.fst hxy
          have hd2 : (x2 == y2) = true := by simp; exact congrArg Prod.snd hxy
          have HE2 := hid (HE.out hxy)
          rw [hd1, hd2] at hnq
          clear hxy HE HN hd1 hd2
          go_wp2
          go_quiet (fail)
          go_wp2
          go_roundg (gk - 1)
          case measure => omega
          case rel => exact ⟨k + 1, by omega, by go_num, HE2.out, _, by rw [HWR.out]; exact World.drewN_drewN _ _ _⟩
        · have hd : (x1 == y1 && x2 == y2) = false := by
            rw [Bool.and_eq_false_iff]
            by_cases h1 : x1 = y1
            · right; simp; intro h2; exact hxy (by rw [h1, h2])
            · left; simpa using h1
          rw [hd] at hnq
          have HN2 := hid (HN.out hxy)
          clear hxy HE HN hd
          go_wp2
          go_quiet (fail)
          go_wp2
          go_ret
          exact ⟨by rw [HN2.out]; rfl, _, by rw [HWR.out]; exact World.drewN_drewN _ _ _⟩
      · have HT : Hid (decide (s = t) = true) := by
          show decide (s = t) = true
          rw [decide_eq_true]
          exact HQ.out.2 fun i h h2 => HG.out i h h2 (by omega)
        go_wp2
        go_ret
        exact ⟨by rw [HT.out]; rfl, _, HWR.out⟩
  · have h0 : ((s.length : Int) != (t.length : Int)) = true := by simp; omega
    have hne : decide (s = t) = false := by rw [decide_eq_false]; intro e; rw [e] at hlen; exact hlen rfl
    have HN := hid hne
    clear hne hlen
    go_enter Tryd.func35, Tryd.ntmps35
    go_wp2
    go_ret
    exact ⟨by rw [HN.out]; rfl, 0, rfl⟩

theorem same_calls (v u : Value) (s t : List Wd) (w : World) (hs : SetAt w v s) (ht : SetAt w u t) :
    Calls Tryd.prog 23 #[v, u] w fun e w' => e = .returned (.bool (decide (s = t))) ∧ Below w.heap.size w w' := by
  have H := hid (equal_calls v u s t w hs ht)
  clear hs ht
  generalize decide (s = t) = b at *
  go_enter Tryd.func23, Tryd.ntmps23
  go_wp2_with fail
  refine H.out.mono ?_
  rintro e w1 ⟨rfl, n, hw⟩
  have hb1 : Below w.heap.size w w1 := by rw [hw]; exact below_drewN (Below.refl _ _) n
  clear hw
  go_wp2
  go_ret
  exact ⟨rfl, hb1⟩
end Go.Proofs.YtecfjjpdlohmnaaDoor.BitSame
