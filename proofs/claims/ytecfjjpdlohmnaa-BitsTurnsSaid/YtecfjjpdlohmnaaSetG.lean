/- Walks over fescueref02.Meet, Without. -/
import Derived.Test.YtecfjjpdlohmnaaSetF
import Derived.Test.YtecfjjpdlohmnaaSetGQ
namespace Go.Proofs.Ytecfjjpdlohmnaa.SetG
open Go.RowKit Go.Lib SetP SetO SetNum SetIn SetWith SetT SetW2 SetF

set_option maxHeartbeats 1000000 in
theorem meet_calls (va vb : Value) (a b : List Wd) (w : World) (ha : SetAt w va a) (hb : SetAt w vb b) (hma : MayW a) (hmb : MayW b) :
    Calls Try.prog 22 #[va, vb] w (OwnS (meetS a b) w) := by
  have HNum := hid (numbers_calls va a w ha hma.win (may_length hma))
  have hnl := numbers_length a
  have hal := may_length hma
  have HB := hid hb
  have HR := hid (numbers_in hma)
  have HIn := hid (fun n h0 h1 wx hbx => in_calls vb b n h0 h1 wx hbx (wok hmb.win))
  have HMF : Hid (∀ k, MayW (withAll [] (((numbers a).take k).filter (inS b)))) := fun k => all_may _ mayw_nil (fun n hn => HR.out n (List.mem_of_mem_take (List.mem_filter.1 hn).1))
  have HD : Hid (meetS a b = withAll [] ((numbers a).filter (inS b))) := rfl
  have HS : Hid (∀ k (h : k < (numbers a).length), withAll [] (((numbers a).take (k + 1)).filter (inS b)) = if inS b (numbers a)[k] = true then withS (withAll [] (((numbers a).take k).filter (inS b))) (numbers a)[k] else withAll [] (((numbers a).take k).filter (inS b))) := by
    intro k h
    rw [List.take_succ_eq_append_getElem h, List.filter_append]
    cases hq : inS b (numbers a)[k]
    · simp [hq]
    · simp only [List.filter_cons, hq, if_true, List.filter_nil]
      unfold withAll; rw [List.foldl_append]; rfl
  clear ha hb
  go_enter Try.func22, Try.ntmps22
  go_wp2_with fail
  refine HNum.out.mono ?_
  rintro e w1 ⟨u, m, rfl, hown, hb1⟩
  have hia := intsAt_of_owns hown (by omega)
  have hset := HB.out.below hb1
  clear hown
  generalize numbers a = l at *
  obtain ⟨ao, cap, rfl, hlen, hm, _⟩ := hia
  have HM := hid hm
  have HSet := hid hset
  clear hm hset
  go_wp2_with fail
  go_loopg [5, 7] l.length (fun g o i wr => ∃ k m : Nat, k + g = l.length ∧ i = .int .i64 k ∧ wr.ownsRow w.heap.size 40 2 o m (wdVals (withAll [] ((l.take k).filter (inS b)))) ∧ Below w1.heap.size w1 wr)
  case atStart => exact ⟨0, 0, by omega, rfl, World.ownsRow_nil _ _ _ _, Below.refl _ _⟩
  case round =>
    obtain ⟨k, m, hk, rfl, hown, hbe⟩ := hrel
    by_cases hlt : k < l.length
    · obtain ⟨bb, off, rfl, hbs, hc⟩ := HM.out (by omega)
      have c0 := (hbe.cell (p := ⟨bb, off + k, none⟩) hbs).trans (hc k hlt)
      obtain ⟨n0, n1⟩ := HR.out _ (List.getElem_mem hlt)
      have HSk := hid (HS.out k hlt)
      have hmay := HMF.out k
      clear hc
      generalize l[k] = n at *
      have HI := hid (HIn.out n n0 (by omega) wr (HSet.out.below hbe))
      go_wp2_with fail
      refine HI.out.mono ?_
      rintro e wx ⟨rfl, m0, hwx⟩
      have hown' : wx.ownsRow w.heap.size 40 2 u5 m (wdVals (withAll [] ((l.take k).filter (inS b)))) := by rw [hwx]; exact hown
      have hbe' : Below w1.heap.size w1 wx := by rw [hwx]; exact below_drewN hbe m0
      have c0' : wx.cell? ⟨bb, off + k, none⟩ = some (.int .i64 n) := by rw [hwx]; exact c0
      clear hown hbe c0 HI hwx
      cases hq : inS b n
      · rw [hq] at HSk
        have HSk2 : Hid (withAll [] ((l.take (k + 1)).filter (inS b)) = withAll [] ((l.take k).filter (inS b))) := HSk
        clear HSk hq hmay
        go_wp2
        go_roundg (gk - 1)
        case measure => omega
        case rel => exact ⟨k + 1, m, by omega, by go_num, by rw [HSk2.out]; exact hown', hbe'⟩
      · rw [hq] at HSk
        have HSk2 : Hid (withAll [] ((l.take (k + 1)).filter (inS b)) = withS (withAll [] ((l.take k).filter (inS b))) n) := HSk
        clear HSk hq
        generalize withAll [] ((l.take k).filter (inS b)) = st at *
        have hsa := setAt_of_owns hown' (by have := may_length hmay; omega)
        have HC := hid (with_calls u5 st n n0 n1 wx hsa hmay (may_length hmay))
        clear hsa hmay hown'
        go_wp2_with fail
        refine HC.out.mono ?_
        rintro e w2 ⟨v1, m1, rfl, hown1, hb2⟩
        have hown2 := owns_base (B := w.heap.size) hown1 (Nat.le_trans hb1.size hbe'.size)
        have hbe1 := hbe'.trans (hb2.mono hbe'.size)
        clear hown1 hb2 hbe' c0'
        go_wp2
        go_roundg (gk - 1)
        case measure => omega
        case rel => exact ⟨k + 1, m1, by omega, by go_num, by rw [HSk2.out]; exact hown2, hbe1⟩
    · obtain rfl : k = l.length := by omega
      rw [List.take_length] at hown
      go_wp2
      go_ret
      exact ⟨u5, m, rfl, by rw [HD.out]; exact hown, hb1.trans (hbe.mono hb1.size)⟩
set_option maxHeartbeats 1000000 in
theorem minus_calls (va vb : Value) (a b : List Wd) (w : World) (ha : SetAt w va a) (hb : SetAt w vb b) (hma : MayW a) (hmb : MayW b) :
    Calls Try.prog 24 #[va, vb] w (OwnS (minusS a b) w) := by
  have HNum := hid (numbers_calls va a w ha hma.win (may_length hma))
  have hnl := numbers_length a
  have hal := may_length hma
  have HB := hid hb
  have HR := hid (numbers_in hma)
  have HIn := hid (fun n h0 h1 wx hbx => in_calls vb b n h0 h1 wx hbx (wok hmb.win))
  have HMF : Hid (∀ k, MayW (withAll [] (((numbers a).take k).filter (fun n => !inS b n)))) := fun k => all_may _ mayw_nil (fun n hn => HR.out n (List.mem_of_mem_take (List.mem_filter.1 hn).1))
  have HD : Hid (minusS a b = withAll [] ((numbers a).filter (fun n => !inS b n))) := rfl
  have HS : Hid (∀ k (h : k < (numbers a).length), withAll [] (((numbers a).take (k + 1)).filter (fun n => !inS b n)) = if inS b (numbers a)[k] = false then withS (withAll [] (((numbers a).take k).filter (fun n => !inS b n))) (numbers a)[k] else withAll [] (((numbers a).take k).filter (fun n => !inS b n))) := by
    intro k h
    rw [List.take_succ_eq_append_getElem h, List.filter_append]
    cases hq : inS b (numbers a)[k]
    · simp only [List.filter_cons, hq, Bool.not_false, if_true, List.filter_nil]
      unfold withAll; rw [List.foldl_append]; rfl
    · simp [hq]
  clear ha hb
  go_enter Try.func24, Try.ntmps24
  go_wp2_with fail
  refine HNum.out.mono ?_
  rintro e w1 ⟨u, m, rfl, hown, hb1⟩
  have hia := intsAt_of_owns hown (by omega)
  have hset := HB.out.below hb1
  clear hown
  generalize numbers a = l at *
  obtain ⟨ao, cap, rfl, hlen, hm, _⟩ := hia
  have HM := hid hm
  have HSet := hid hset
  clear hm hset
  go_wp2_with fail
  go_loopg [5, 7] l.length (fun g o i wr => ∃ k m : Nat, k + g = l.length ∧ i = .int .i64 k ∧ wr.ownsRow w.heap.size 40 2 o m (wdVals (withAll [] ((l.take k).filter (fun n => !inS b n)))) ∧ Below w1.heap.size w1 wr)
  case atStart => exact ⟨0, 0, by omega, rfl, World.ownsRow_nil _ _ _ _, Below.refl _ _⟩
  case round =>
    obtain ⟨k, m, hk, rfl, hown, hbe⟩ := hrel
    by_cases hlt : k < l.length
    · obtain ⟨bb, off, rfl, hbs, hc⟩ := HM.out (by omega)
      have c0 := (hbe.cell (p := ⟨bb, off + k, none⟩) hbs).trans (hc k hlt)
      obtain ⟨n0, n1⟩ := HR.out _ (List.getElem_mem hlt)
      have HSk := hid (HS.out k hlt)
      have hmay := HMF.out k
      clear hc
      generalize l[k] = n at *
      have HI := hid (HIn.out n n0 (by omega) wr (HSet.out.below hbe))
      go_wp2_with fail
      refine HI.out.mono ?_
      rintro e wx ⟨rfl, m0, hwx⟩
      have hown' : wx.ownsRow w.heap.size 40 2 u5 m (wdVals (withAll [] ((l.take k).filter (fun n => !inS b n)))) := by rw [hwx]; exact hown
      have hbe' : Below w1.heap.size w1 wx := by rw [hwx]; exact below_drewN hbe m0
      have c0' : wx.cell? ⟨bb, off + k, none⟩ = some (.int .i64 n) := by rw [hwx]; exact c0
      clear hown hbe c0 HI hwx
      cases hq : inS b n
      · rw [hq] at HSk
        have HSk2 : Hid (withAll [] ((l.take (k + 1)).filter (fun n => !inS b n)) = withS (withAll [] ((l.take k).filter (fun n => !inS b n))) n) := HSk
        clear HSk hq
        generalize withAll [] ((l.take k).filter (fun n => !inS b n)) = st at *
        have hsa := setAt_of_owns hown' (by have := may_length hmay; omega)
        have HC := hid (with_calls u5 st n n0 n1 wx hsa hmay (may_length hmay))
        clear hsa hmay hown'
        go_wp2_with fail
        refine HC.out.mono ?_
        rintro e w2 ⟨v1, m1, rfl, hown1, hb2⟩
        have hown2 := owns_base (B := w.heap.size) hown1 (Nat.le_trans hb1.size hbe'.size)
        have hbe1 := hbe'.trans (hb2.mono hbe'.size)
        clear hown1 hb2 hbe' c0'
        go_wp2
        go_roundg (gk - 1)
        case measure => omega
        case rel => exact ⟨k + 1, m1, by omega, by go_num, by rw [HSk2.out]; exact hown2, hbe1⟩
      · rw [hq] at HSk
        have HSk2 : Hid (withAll [] ((l.take (k + 1)).filter (fun n => !inS b n)) = withAll [] ((l.take k).filter (fun n => !inS b n))) := HSk
        clear HSk hq hmay
        go_wp2
        go_roundg (gk - 1)
        case measure => omega
        case rel => exact ⟨k + 1, m, by omega, by go_num, by rw [HSk2.out]; exact hown', hbe'⟩
    · obtain rfl : k = l.length := by omega
      rw [List.take_length] at hown
      go_wp2
      go_ret
      exact ⟨u5, m, rfl, by rw [HD.out]; exact hown, hb1.trans (hbe.mono hb1.size)⟩
end Go.Proofs.Ytecfjjpdlohmnaa.SetG
