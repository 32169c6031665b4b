/- Walk over fescueref02.Union. -/
import Derived.Test.YtecfjjpdlohmnaaSetG
namespace Go.Proofs.Ytecfjjpdlohmnaa.SetU
open Go.RowKit Go.Lib SetP SetO SetNum SetIn SetWith SetT SetW2 SetF SetG

set_option maxHeartbeats 1000000 in
theorem union_calls (va vb : Value) (a b : List Wd) (w : World) (ha : SetAt w va a) (hb : SetAt w vb b) (hma : MayW a) (hmb : MayW b) :
    Calls Try.prog 20 #[va, vb] w (OwnS (unionS a b) w) := by
  obtain ⟨i0, hi, hz0, hz1, hz2⟩ := info_parts info_wd
  have HNum := hid (numbers_calls vb b w hb hmb.win (may_length hmb))
  have hnl := numbers_length b
  have hbl := may_length hmb
  have HA := hid ha
  have HR := hid (numbers_in hmb)
  have HMF : Hid (∀ k, MayW (withAll a ((numbers b).take k))) := fun k => all_may _ hma (fun n hn => HR.out n (List.mem_of_mem_take hn))
  have HD : Hid (unionS a b = withAll a (numbers b)) := rfl
  have HS : Hid (∀ k (h : k < (numbers b).length), withAll a ((numbers b).take (k + 1)) = withS (withAll a ((numbers b).take k)) (numbers b)[k]) := fun k h => withAll_succ a h
  have HU := hid (may_length (union_may hma hmb))
  clear ha hb
  go_enter Try.func20, Try.ntmps20
  go_wp2_with fail
  refine HNum.out.mono ?_
  rintro e w1 ⟨u, m, rfl, hown, hb1⟩
  have hia := intsAt_of_owns hown (by omega)
  have hset := HA.out.below hb1
  clear hown HNum
  generalize numbers b = l at *
  obtain ⟨ao, cap, rfl, hlen, hm, _⟩ := hia
  have HM := hid hm
  have HSet := hid hset
  clear hm hset
  go_wp2_with fail
  go_loopg [0, 6] l.length (fun g o i wr => ∃ k : Nat, k + g = l.length ∧ i = .int .i64 k ∧ SetAt wr o (withAll a (l.take k)) ∧ Below w1.heap.size w1 wr)
  case atStart => exact ⟨0, by omega, rfl, HSet.out, Below.refl _ _⟩
  case round =>
    obtain ⟨k, hk, rfl, hsa, hbe⟩ := hrel
    by_cases hlt : k < l.length
    · obtain ⟨bb, off, rfl, hbs, hc⟩ := HM.out (by omega)
      have c0 := (hbe.cell (p := ⟨bb, off + k, none⟩) hbs).trans (hc k hlt)
      obtain ⟨n0, n1⟩ := HR.out _ (List.getElem_mem hlt)
      have HSk := hid (HS.out k hlt)
      have hmay := HMF.out k
      clear hc
      generalize l[k] = n at *
      generalize withAll a (l.take k) = st at *
      have HC := hid (with_calls u0 st n n0 n1 wr hsa hmay (may_length hmay))
      clear hsa
      go_wp2_with fail
      refine HC.out.mono ?_
      rintro e w2 ⟨v1, m1, rfl, hown1, hb2⟩
      have hsa2 := setAt_of_owns hown1 (by have := may_length (with_may n0 n1 hmay); omega)
      have hbe1 := hbe.trans (hb2.mono hbe.size)
      clear hown1 hb2 hbe c0 hmay
      go_wp2
      go_roundg (gk - 1)
      case measure => omega
      case rel => exact ⟨k + 1, by omega, by go_num, by rw [HSk.out]; exact hsa2, hbe1⟩
    · obtain rfl : k = l.length := by omega
      rw [List.take_length, ← HD.out] at hsa
      have hbw : Below w.heap.size w wr := hb1.trans (hbe.mono hb1.size)
      have hul := HU.out
      generalize unionS a b = s at *
      clear HMF HS HM HSet HD HR hbe hb1
      obtain ⟨ao2, cap2, rfl, hl2, hm2, hz2', _⟩ := hsa
      by_cases hpos : 0 < s.length
      · obtain ⟨b2, off2, rfl, hbs2, hc2⟩ := hm2 hpos
        have HC2 := hid hc2
        clear hm2 hc2
        go_wp2_with (first
          | (at_builtin; refine wpList_append_own _ rfl (.tmp 21) (.tmp 22) 23 rfl w.heap.size 40 i0 (.agg #[.int .i64 0, .int .u64 0]) 2 16 Try.underlying23 hi hz0 hz1 hz2 rfl (by decide) (.slice (some ⟨wr.heap.size, 0, none⟩) 0 0) 0 [] rfl ?a0 ⟨b2, off2, none⟩ s.length cap2 (wdVals s) rfl ?a6 ?a1 ?a2 ?a3 ?a4 ?a5 ?_)
          | go_in)
        case a0 => exact World.ownsRow_made wr #[] 0 hbw.size (by decide) (by simp)
        case a6 => exact wdVals_length s
        case a1 =>
          have hbx : Below wr.heap.size wr (wr.alloc (Obj.cells #[] 40)) := (Below.refl _ _).alloc (Nat.le_refl _) _
          exact set_news fun i h => ⟨(hbx.cell (p := ⟨b2, _, none⟩) hbs2).trans (HC2.out i h).1, (hbx.cell (p := ⟨b2, _, none⟩) hbs2).trans (HC2.out i h).2⟩
        case a2 => exact wd_one s
        case a3 => unfold maxLen; omega
        case a4 => omega
        case a5 => have := hbw.size; simp; omega
        · intro v' w2 hown' hgrow _
          have hbe2 : Below w.heap.size w w2 := (hbw.alloc hbw.size _).grown hgrow (by have := hbw.size; simp; omega) (fun g hg => by have := hbw.size; simp [Value.ownBlock] at hg; omega)
          clear hgrow hbw
          go_wp2
          go_ret
          exact ⟨v', s.length, rfl, hown', hbe2⟩
      · obtain rfl : s = [] := List.eq_nil_of_length_eq_zero (by omega)
        cases ao2 with
        | none =>
          obtain rfl : cap2 = 0 := hz2' rfl
          clear hm2 hz2'
          go_wp2_with (first
            | (at_builtin; refine wpList_append_own_none rfl (.tmp 21) (.tmp 22) 23 rfl w.heap.size 40 i0 2 Try.underlying23 hi (.slice (some ⟨wr.heap.size, 0, none⟩) 0 0) 0 [] rfl (World.ownsRow_made wr #[] 0 hbw.size (by decide) (by simp)) rfl ?_)
            | go_in)
          go_ret
          exact ⟨.slice (some ⟨wr.heap.size, 0, none⟩) 0 0, 0, rfl, World.ownsRow_made wr #[] 0 hbw.size (by decide) (by simp), hbw.alloc hbw.size _⟩
        | some ad =>
          clear hm2 hz2'
          go_wp2_with (first
            | (at_builtin; refine wpList_append_own _ rfl (.tmp 21) (.tmp 22) 23 rfl w.heap.size 40 i0 (.agg #[.int .i64 0, .int .u64 0]) 2 16 Try.underlying23 hi hz0 hz1 hz2 rfl (by decide) (.slice (some ⟨wr.heap.size, 0, none⟩) 0 0) 0 [] rfl ?b0 ad 0 cap2 [] rfl ?b6 ?b1 ?b2 ?b3 ?b4 ?b5 ?_)
            | go_in)
          case b0 => exact World.ownsRow_made wr #[] 0 hbw.size (by decide) (by simp)
          case b6 => rfl
          case b1 => intro j u hj; simp at hj
          case b2 => intro u hu; simp at hu
          case b3 => decide
          case b4 => decide
          case b5 => have := hbw.size; simp; omega
          · intro v' w2 hown' hgrow _
            have hbe2 : Below w.heap.size w w2 := (hbw.alloc hbw.size _).grown hgrow (by have := hbw.size; simp; omega) (fun g hg => by have := hbw.size; simp [Value.ownBlock] at hg; omega)
            clear hgrow hbw
            go_wp2
            go_ret
            exact ⟨v', 0, rfl, hown', hbe2⟩
end Go.Proofs.Ytecfjjpdlohmnaa.SetU
