/- Walks over fescueref02.Same and SameInts. -/
import Derived.Test.YtecfjjpdlohmnaaDoorSetP
import Derived.Deep.LoopGhost
import Derived.Laws.StructEq
namespace Go.Proofs.YtecfjjpdlohmnaaDoor.SetSame
open Go.RowKit Go.Lib SetP

set_option maxHeartbeats 400000 in
theorem same_ints (v u : Value) (s t : List Int) (w : World) (hs : IntsAt w v s) (ht : IntsAt w u t) :
    Calls Tryd.prog 21 #[v, u] w fun e w' => e = .returned (.bool (decide (s = t))) ∧ ∃ m, w' = w.drewN m := by
  obtain ⟨ao, cap, rfl, hl, hm, _⟩ := hs
  obtain ⟨bo, cap2, rfl, hl2, hm2, _⟩ := ht
  by_cases hlen : s.length = t.length
  · have h0 : ((s.length : Int) != (t.length : Int)) = false := by simp; omega
    have HQ := hid (eq_upto hlen)
    have HL := hid hlen
    clear hlen
    go_enter Tryd.func21, Tryd.ntmps21
    go_wp2
    go_loopg [5] s.length (fun g i wr => ∃ k : Nat, k + g = s.length ∧ i = .int .i64 k ∧ (∀ j (h : j < s.length) (h2 : j < t.length), j < k → s[j] = t[j]) ∧ ∃ m, wr = w.drewN m)
    case atStart => exact ⟨0, by omega, rfl, by omega, 0, rfl⟩
    case round =>
      obtain ⟨k, hk, rfl, hg, m, hwr⟩ := hrel
      have HWR := hid hwr
      have HG := hid hg
      clear hwr hg
      by_cases hlt : k < s.length
      · have hlt2 : k < t.length := by have := HL.out; omega
        obtain ⟨b, off, rfl, hbs, hc⟩ := hm (by omega)
        obtain ⟨b2, off2, rfl, hbs2, hc2⟩ := hm2 (by omega)
        have c0 : wr.cell? ⟨b, off + k, none⟩ = some (.int .i64 s[k]) := by rw [HWR.out]; exact hc k hlt
        have c1 : wr.cell? ⟨b2, off2 + k, none⟩ = some (.int .i64 t[k]) := by rw [HWR.out]; exact hc2 k hlt2
        have HE : Hid (s[k] = t[k] → ∀ j (h : j < s.length) (h2 : j < t.length), j < k + 1 → s[j] = t[j]) := by
          intro he j h h2 hj
          rcases Nat.lt_succ_iff_lt_or_eq.1 hj with h3 | rfl
          · exact HG.out j h h2 h3
          · exact he
        have HN : Hid (s[k] ≠ t[k] → decide (s = t) = false) := by
          intro hne
          rw [decide_eq_false]
          intro e
          exact hne (HQ.out.1 e k hlt hlt2)
        clear hc hc2 hm hm2
        generalize s[k] = x at *
        generalize t[k] = y at *
        by_cases hxy : x = y
        · have hd : (x != y) = false := by simpa using hxy
          have HE2 := hid (HE.out hxy)
          clear hxy HE HN
          go_wp2
          go_quiet (fail)
          go_wp2
          go_roundg (gk - 1)
          case measure => omega
          case rel => exact ⟨k + 1, by omega, by go_num, HE2.out, _, by rw [HWR.out]; exact World.drewN_drewN _ _ _⟩
        · have hd : (x != y) = true := by simpa using hxy
          have HN2 := hid (HN.out hxy)
          clear hxy HE HN
          go_wp2
          go_quiet (fail)
          go_wp2
          go_ret
          exact ⟨by rw [HN2.out]; rfl, _, by rw [HWR.out]; exact World.drewN_drewN _ _ _⟩
      · have HT : Hid (decide (s = t) = true) := by
          show decide (s = t) = true
          rw [decide_eq_true]
          exact HQ.out.2 fun i h h2 => HG.out i h h2 (by omega)
        go_wp2
        go_ret
        exact ⟨by rw [HT.out]; rfl, _, HWR.out⟩
  · have h0 : ((s.length : Int) != (t.length : Int)) = true := by simp; omega
    have hne : decide (s = t) = false := by rw [decide_eq_false]; intro e; rw [e] at hlen; exact hlen rfl
    have HN := hid hne
    clear hne hlen
    go_enter Tryd.func21, Tryd.ntmps21
    go_wp2
    go_ret
    exact ⟨by rw [HN.out]; rfl, 0, rfl⟩
theorem wdHeld : Tryd.prog.stoodInHeld 34 = false := by kernel_rfl
theorem wdGuard : Tryd.prog.eqGuardType Tryd.prog.depth 34 = false := by kernel_rfl
theorem wdFields : (Tryd.prog.fieldsOf 34).toList.map (fun f => (f.name == "_", f.type, f.offset)) = [(false, 3, 0), (false, 32, 1)] := by kernel_rfl
theorem wdUnder : Tryd.prog.underlying 34 = some (.struct (Tryd.prog.fieldsOf 34)) := by kernel_rfl

theorem neq_wd (x1 x2 y1 y2 : Int) (w : World) : (binOp .neq 34 (.agg #[.int .i64 x1, .int .u64 x2]) (.agg #[.int .i64 y1, .int .u64 y2])).run Tryd.prog w = .ok (.bool (!(x1 == y1 && x2 == y2))) w := by
  rw [run_neq_struct, run_equalIn_struct w 9999 _ _ _ wdUnder wdHeld]
  have hf := wdFields
  generalize (Tryd.prog.fieldsOf 34).toList = fs at hf
  rcases fs with _ | ⟨f, _ | ⟨g, _ | ⟨h, t⟩⟩⟩
  · simp at hf
  · simp at hf
  · simp only [List.map_cons, List.map_nil, List.cons.injEq, Prod.mk.injEq, and_true] at hf
    obtain ⟨⟨f1, f2, f3⟩, g1, g2, g3⟩ := hf
    have fn : f.name ≠ "_" := by simpa using f1
    have gn : g.name ≠ "_" := by simpa using g1
    simp only [Op.eqFields, ne_eq, fn, gn, not_false_eq_true, if_true, f2, f3, g2, g3]
    have u1 := Tryd.underlying3
    have u2 := Tryd.underlying32
    simp [go_sem, u1, u2]
    by_cases h1 : x1 = y1
    · by_cases h2 : x2 = y2
      · simp [h1, h2]
      · simp [h1, h2]
    · simp [h1]
  · simp at hf

set_option maxHeartbeats 400000 in
theorem same_sets (v u : Value) (s t : List Wd) (w : World) (hs : SetAt w v s) (ht : SetAt w u t) :
    Calls Tryd.prog 24 #[v, u] w fun e w' => e = .returned (.bool (decide (s = t))) ∧ ∃ m, w' = w.drewN m := by
  obtain ⟨ao, cap, rfl, hl, hm, _⟩ := hs
  obtain ⟨bo, cap2, rfl, hl2, hm2, _⟩ := ht
  by_cases hlen : s.length = t.length
  · have h0 : ((s.length : Int) != (t.length : Int)) = false := by simp; omega
    have HQ := hid (eq_upto hlen)
    have HL := hid hlen
    clear hlen
    go_enter Tryd.func24, Tryd.ntmps24
    go_wp2
    go_loopg [5] s.length (fun g i wr => ∃ k : Nat, k + g = s.length ∧ i = .int .i64 k ∧ (∀ j (h : j < s.length) (h2 : j < t.length), j < k → s[j] = t[j]) ∧ ∃ m, wr = w.drewN m)
    case atStart => exact ⟨0, by omega, rfl, by omega, 0, rfl⟩
    case round =>
      obtain ⟨k, hk, rfl, hg, m, hwr⟩ := hrel
      have HWR := hid hwr
      have HG := hid hg
      clear hwr hg
      by_cases hlt : k < s.length
      · have hlt2 : k < t.length := by have := HL.out; omega
        obtain ⟨b, off, rfl, hbs, hc⟩ := hm (by omega)
        obtain ⟨b2, off2, rfl, hbs2, hc2⟩ := hm2 (by omega)
        have c0 : wr.cell? ⟨b, off + k * 2, none⟩ = some (.int .i64 s[k].1) := by rw [HWR.out]; exact (hc k hlt).1
        have c1 : wr.cell? ⟨b, off + k * 2 + 1, none⟩ = some (.int .u64 s[k].2) := by rw [HWR.out]; exact (hc k hlt).2
        have d0 : wr.cell? ⟨b2, off2 + k * 2, none⟩ = some (.int .i64 t[k].1) := by rw [HWR.out]; exact (hc2 k hlt2).1
        have d1 : wr.cell? ⟨b2, off2 + k * 2 + 1, none⟩ = some (.int .u64 t[k].2) := by rw [HWR.out]; exact (hc2 k hlt2).2
        have HE : Hid (s[k] = t[k] → ∀ j (h : j < s.length) (h2 : j < t.length), j < k + 1 → s[j] = t[j]) := by
          intro he j h h2 hj
          rcases Nat.lt_succ_iff_lt_or_eq.1 hj with h3 | rfl
          · exact HG.out j h h2 h3
          · exact he
        have HN : Hid (s[k] ≠ t[k] → decide (s = t) = false) := by
          intro hne
          rw [decide_eq_false]
          intro e
          exact hne (HQ.out.1 e k hlt hlt2)
        clear hc hc2 hm hm2
        generalize s[k] = x at *
        generalize t[k] = y at *
        obtain ⟨x1, x2⟩ := x
        obtain ⟨y1, y2⟩ := y
        simp only at c0 c1 d0 d1
        have hnq := neq_wd x1 x2 y1 y2
        have hgd := wdGuard
        by_cases hxy : (x1, x2) = (y1, y2)
        · have hd1 : (x1 == y1) = true := by simp; exact congrArg Prod.fst hxy
          have hd2 : (x2 == y2) = true := by simp; exact congrArg Prod.snd hxy
          have HE2 := hid (HE.out hxy)
          rw [hd1, hd2] at hnq
          clear hxy HE HN hd1 hd2
          go_wp2
          go_quiet (fail)
          go_wp2
          go_roundg (gk - 1)
          case measure => omega
          case rel => exact ⟨k + 1, by omega, by go_num, HE2.out, _, by rw [HWR.out]; exact World.drewN_drewN _ _ _⟩
        · have hd : (x1 == y1 && x2 == y2) = false := by
            rw [Bool.and_eq_false_iff]
            by_cases h1 : x1 = y1
            · right; simp; intro h2; exact hxy (by rw [h1, h2])
            · left; simpa using h1
          rw [hd] at hnq
          have HN2 := hid (HN.out hxy)
          clear hxy HE HN hd
          go_wp2
          go_quiet (fail)
          go_wp2
          go_ret
          exact ⟨by rw [HN2.out]; rfl, _, by rw [HWR.out]; exact World.drewN_drewN _ _ _⟩
      · have HT : Hid (decide (s = t) = true) := by
          show decide (s = t) = true
          rw [decide_eq_true]
          exact HQ.out.2 fun i h h2 => HG.out i h h2 (by omega)
        go_wp2
        go_ret
        exact ⟨by rw [HT.out]; rfl, _, HWR.out⟩
  · have h0 : ((s.length : Int) != (t.length : Int)) = true := by simp; omega
    have hne : decide (s = t) = false := by rw [decide_eq_false]; intro e; rw [e] at hlen; exact hlen rfl
    have HN := hid hne
    clear hne hlen
    go_enter Tryd.func24, Tryd.ntmps24
    go_wp2
    go_ret
    exact ⟨by rw [HN.out]; rfl, 0, rfl⟩
end Go.Proofs.YtecfjjpdlohmnaaDoor.SetSame
