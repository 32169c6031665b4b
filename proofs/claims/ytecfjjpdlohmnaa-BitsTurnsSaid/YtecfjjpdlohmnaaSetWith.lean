/- Walk over fescueref02.With. -/
import Derived.Test.YtecfjjpdlohmnaaSetWP
import Derived.Deep.RegionWith
import Derived.Deep.Cut
import Derived.Deep.CutRange
import Derived.Deep.DeepCutAuto
import Derived.Laws.AppendOwnNone
namespace Go.Proofs.Ytecfjjpdlohmnaa.SetWith
open Go.RowKit Go.Lib SetP SetO SetNum SetIn

set_option maxHeartbeats 2000000 in
theorem with_new (v : Value) (s : List Wd) (n : Int) (h0 : 0 ≤ n) (h1 : n < 1048576) (w : World) (hs : SetAt w v s) (hin : ∀ x ∈ s, WdIn x) (hlen : s.length ≤ 16384) (hno : inS s n = false) (hfit : Fits s n) :
    Calls Try.prog 16 #[v, .int .i64 n] w (OwnS (withS s n) w) := by
  obtain ⟨i0, hi, hz0, hz1, hz2⟩ := info_parts info_wd
  have HS := hid hs
  have HBit := hid (bit_calls n h0 (by omega))
  have hp := pow_lt (k := (n % 64).toNat) (by omega)
  have hp0 : 1 ≤ 2 ^ (n % 64).toNat := Nat.one_le_two_pow
  have HW : Hid (withS s n = (let st := wfold (n / 64) ((2 ^ (n % 64).toNat : Nat) : Int) s; if st.2 = true then st.1 else st.1 ++ [(n / 64, ((2 ^ (n % 64).toNat : Nat) : Int))])) := by
    show withS s n = _
    unfold withS; rw [hno]; rfl
  have HIN := in_calls v s n h0 (by omega) w hs (fun x hx => by obtain ⟨a1, a2, a3, a4⟩ := hin x hx; exact ⟨by omega, by omega, a3, a4⟩)
  rw [hno] at HIN
  have HINN := hid HIN
  unfold Fits at hfit
  clear HIN hno HS
  generalize 2 ^ (n % 64).toNat = p at *
  obtain ⟨ao, cap, rfl, hl, hm, _⟩ := hs
  go_enter Try.func16, Try.ntmps16
  go_wp2_with fail
  refine HINN.out.mono ?_
  rintro e w1 ⟨rfl, m0, rfl⟩
  go_wp2_with fail
  have hb0 : Below w.heap.size w (w.drewN m0) := below_drewN (Below.refl _ _) _
  have hm' : 0 < s.length → ∃ b off, ao = some ⟨b, off, none⟩ ∧ b < w.heap.size ∧ ∀ i (h : i < s.length), w.cell? ⟨b, off + i * 2, none⟩ = some (.int .i64 s[i].1) ∧ w.cell? ⟨b, off + i * 2 + 1, none⟩ = some (.int .u64 s[i].2) := hm
  have HM := hid hm'
  have HF := hid hfit
  have HIN := hid hin
  clear hm hm' hfit hin
  generalize w.drewN m0 = ws at *
  go_loopg [5, 6, 7] s.length (fun g o th i wr => ∃ k m : Nat, k + g = s.length ∧ i = .int .i64 k ∧ th = .bool (wfold (n / 64) (p : Int) (s.take k)).2 ∧ wr.ownsRow w.heap.size 40 2 o m (wdVals (wfold (n / 64) (p : Int) (s.take k)).1) ∧ Below w.heap.size w wr)
  case atStart => exact ⟨0, 0, by omega, rfl, rfl, World.ownsRow_nil _ _ _ _, hb0⟩
  case round =>
    clear hb0
    obtain ⟨k, m, hk, rfl, rfl, hown, hbe⟩ := hrel
    by_cases hlt : k < s.length
    · obtain ⟨b, off, rfl, hbs, hc⟩ := HM.out (by omega)
      have c0 : wr.cell? ⟨b, off + k * 2, none⟩ = some (.int .i64 s[k].1) := (hbe.cell (p := ⟨b, _, none⟩) hbs).trans (hc k hlt).1
      have c1 : wr.cell? ⟨b, off + k * 2 + 1, none⟩ = some (.int .u64 s[k].2) := (hbe.cell (p := ⟨b, _, none⟩) hbs).trans (hc k hlt).2
      obtain ⟨x0, x1, y0, y1⟩ := HIN.out _ (List.getElem_mem hlt)
      have HFk := hid (HF.out k hlt)
      have HSt := hid (wfold_succ (n / 64) (p : Int) hlt)
      have hwl := wfold_length (n / 64) (p : Int) (s.take k) ([], false)
      have htl : (s.take k).length ≤ k := List.length_take_le _ _
      have hml : m = (wfold (n / 64) (p : Int) (s.take k)).1.length := by have := hown.1; rw [wdVals_length] at this; omega
      have HML : Hid (m ≤ 2 * 16384) := by
        show m ≤ _
        rw [hml]
        have : (wfold (n / 64) (p : Int) (s.take k)).1.length ≤ 0 + 2 * (s.take k).length := hwl
        omega
      clear hc hwl htl hml
      generalize wfold (n / 64) (p : Int) (s.take k) = st at *
      obtain ⟨l0, th⟩ := st
      simp only at hown
      generalize s[k] = xy at *
      obtain ⟨x, y⟩ := xy
      simp only at c0 c1 x0 x1 y0 y1
      by_cases hxa : x = n / 64
      · have hd1 : (x == n / 64) = true := by simpa using hxa
        have hst : wfold (n / 64) (p : Int) (s.take (k + 1)) = (l0 ++ [(x, y + p)], true) := by rw [HSt.out]; simp only [wstep]; rw [if_pos hxa]
        have hfk : y + (p : Int) ≤ 18446744073709551615 := HFk.out hxa
        have HST := hid hst
        clear hst HFk HSt
        subst hxa
        have hwrp : IntKind.u64.wrap (y + (p : Int)) = y + (p : Int) := IntWalk.u64_in _ (by omega)
        go_upto_region 10 with (fail)
        go_cut [5] (fun o wc => o = u5 ∧ wc = (wr.alloc (.cells #[.int .i64 (n / 64), .int .u64 (y + (p : Int))] 40)).drew)
        case first =>
          go_region_with (go_at_call 26; refine (HBit.out _).mono ?_; rintro e u2 ⟨rfl, rfl⟩)
          all_goals go_wp2_with fail
          all_goals go_meet
          all_goals exact ⟨rfl, rfl⟩
        case rest =>
          obtain ⟨rfl, rfl⟩ := hcut
          go_wp2_with (first | (at_builtin; refine wpList_append_own _ rfl (.tmp 53) (.tmp 55) 23 rfl w.heap.size 40 i0 (.agg #[.int .i64 0, .int .u64 0]) 2 16 Try.underlying23 hi hz0 hz1 hz2 rfl (by decide) u5 m (wdVals l0) rfl ?a0 ⟨wr.heap.size + 1, 0, none⟩ 1 1 [.int .i64 (n / 64), .int .u64 (y + (p : Int))] rfl rfl ?a1 ?a2 ?a3 ?a4 ?a5 ?_) | go_in)
          case a0 => exact (hown.alloc _).alloc _
          case a1 => have := cell_two_new (wr.alloc (.cells #[.int .i64 (n / 64), .int .u64 (y + (p : Int))] 40)) (.int .i64 (n / 64)) (.int .u64 (y + (p : Int))) 40; simpa using this
          case a2 => intro u hu; simp at hu; rcases hu with rfl | rfl <;> rfl
          case a3 => have := HML.out; unfold maxLen; omega
          case a4 => have := HML.out; omega
          case a5 => have := hbe.size; simp; omega
          · intro v' w1 hown' hgrow _
            have hlt3 := hown.lt
            have hbe1 : Below w.heap.size w w1 := (((hbe.alloc hbe.size _).alloc (by have := hbe.size; simp; omega) _).drew).grown hgrow (by have := hbe.size; simp; omega) (fun g hg => (hlt3 g hg).1)
            rw [show wdVals l0 ++ [.int .i64 (n / 64), .int .u64 (y + (p : Int))] = wdVals (l0 ++ [(n / 64, y + (p : Int))]) by rw [wdVals_append]; rfl] at hown'
            clear hown hgrow hbe hlt3 c0 c1
            go_wp2
            go_roundg (gk - 1)
            case measure => omega
            case rel => exact ⟨k + 1, _, by omega, by go_num, by rw [HST.out], by rw [HST.out]; exact hown', hbe1⟩
      · have hd1 : (x == n / 64) = false := by simpa using hxa
        by_cases hins : n / 64 < x ∧ th = false
        · obtain ⟨hgt, rfl⟩ := hins
          have hst : wfold (n / 64) (p : Int) (s.take (k + 1)) = (l0 ++ [(n / 64, (p : Int)), (x, y)], true) := by rw [HSt.out]; simp [wstep, hxa, hgt]
          have HST := hid hst
          clear hst HFk HSt hxa
          have hnot : ∀ (x : Bool) (w : World), (Op.unary .not (.bool x)).run Try.prog w = .ok (.bool (!x)) w := fun _ _ => rfl
          go_wp2_with (first | (go_at_call 26; refine (HBit.out _).mono ?_; rintro e u2 ⟨rfl, rfl⟩) | (at_builtin; refine wpList_append_own _ rfl (.tmp 45) (.tmp 51) 23 rfl w.heap.size 40 i0 (.agg #[.int .i64 0, .int .u64 0]) 2 16 Try.underlying23 hi hz0 hz1 hz2 rfl (by decide) u5 m (wdVals l0) rfl ?b0 ⟨wr.heap.size + 1, 0, none⟩ 1 1 [.int .i64 (n / 64), .int .u64 (p : Int)] rfl rfl ?b1 ?b2 ?b3 ?b4 ?b5 ?_) | go_in)
          case b0 => exact (hown.alloc _).alloc _
          case b1 => have := cell_two_new (wr.alloc (.cells #[.int .i64 x, .int .u64 y] 40)) (.int .i64 (n / 64)) (.int .u64 (p : Int)) 40; simpa using this
          case b2 => intro u hu; simp at hu; rcases hu with rfl | rfl <;> rfl
          case b3 => have := HML.out; unfold maxLen; omega
          case b4 => have := HML.out; omega
          case b5 => have := hbe.size; simp; omega
          · intro v' w1 hown' hgrow _
            have hlt3 := hown.lt
            have hbe1 : Below w.heap.size w w1 := ((hbe.alloc hbe.size _).alloc (by have := hbe.size; simp; omega) _).grown hgrow (by have := hbe.size; simp; omega) (fun g hg => (hlt3 g hg).1)
            have hblk : w1.heap[wr.heap.size]? = _ := hgrow.block wr.heap.size (by simp; omega) (by intro e; have := (hlt3 _ e.symm).2; omega)
            have hv0 : w1.cell? ⟨wr.heap.size, 0, none⟩ = some (.int .i64 x) := (World.cell?_of_block (a := ⟨wr.heap.size, 0, none⟩) hblk).trans (by simp [go_sem])
            have hv1 : w1.cell? ⟨wr.heap.size, 1, none⟩ = some (.int .u64 y) := (World.cell?_of_block (a := ⟨wr.heap.size, 1, none⟩) hblk).trans (by simp [go_sem])
            rw [show wdVals l0 ++ [.int .i64 (n / 64), .int .u64 (p : Int)] = wdVals (l0 ++ [(n / 64, (p : Int))]) by rw [wdVals_append]; rfl] at hown'
            clear hown hgrow hbe hlt3 c0 c1 hblk
            go_wp2_with (first | (at_builtin; refine wpList_append_own _ rfl (.tmp 53) (.tmp 55) 23 rfl w.heap.size 40 i0 (.agg #[.int .i64 0, .int .u64 0]) 2 16 Try.underlying23 hi hz0 hz1 hz2 rfl (by decide) v' (m + 1) (wdVals (l0 ++ [(n / 64, (p : Int))])) rfl ?c0 ⟨w1.heap.size, 0, none⟩ 1 1 [.int .i64 x, .int .u64 y] rfl rfl ?c1 ?c2 ?c3 ?c4 ?c5 ?_) | go_in)
            case c0 => exact hown'.alloc _
            case c1 => exact cell_two_new w1 _ _ _
            case c2 => intro u hu; simp at hu; rcases hu with rfl | rfl <;> rfl
            case c3 => have := HML.out; unfold maxLen; omega
            case c4 => have := HML.out; omega
            case c5 => have := hbe1.size; simp; omega
            · intro v2 w2 hown2 hgrow2 _
              have hlt4 := hown'.lt
              have hbe2 : Below w.heap.size w w2 := (hbe1.alloc hbe1.size _).grown hgrow2 (by have := hbe1.size; simp; omega) (fun g hg => (hlt4 g hg).1)
              rw [show wdVals (l0 ++ [(n / 64, (p : Int))]) ++ [.int .i64 x, .int .u64 y] = wdVals (l0 ++ [(n / 64, (p : Int)), (x, y)]) by simp [wdVals]] at hown2
              clear hown' hgrow2 hlt4 hbe1 hv0 hv1
              go_wp2
              go_roundg (gk - 1)
              case measure => omega
              case rel => exact ⟨k + 1, _, by omega, by go_num, by rw [HST.out], by rw [HST.out]; exact hown2, hbe2⟩
        · have hst : wfold (n / 64) (p : Int) (s.take (k + 1)) = (l0 ++ [(x, y)], th) := by
            rw [HSt.out]; simp only [wstep]; rw [if_neg hxa, if_neg hins]
          have HST := hid hst
          have hnot : ∀ (x : Bool) (w : World), (Op.unary .not (.bool x)).run Try.prog w = .ok (.bool (!x)) w := fun _ _ => rfl
          have hcase : (n / 64 < x ∧ th = true) ∨ ¬ n / 64 < x := by
            by_cases h : n / 64 < x
            · cases th
              · exact absurd ⟨h, rfl⟩ hins
              · exact .inl ⟨h, rfl⟩
            · exact .inr h
          clear hst HFk HSt hxa hins
          rcases hcase with ⟨hgt, rfl⟩ | hgt
          · go_wp2_with (first | (at_builtin; refine wpList_append_own _ rfl (.tmp 53) (.tmp 55) 23 rfl w.heap.size 40 i0 (.agg #[.int .i64 0, .int .u64 0]) 2 16 Try.underlying23 hi hz0 hz1 hz2 rfl (by decide) u5 m (wdVals l0) rfl ?d0 ⟨wr.heap.size + 1, 0, none⟩ 1 1 [.int .i64 x, .int .u64 y] rfl rfl ?d1 ?d2 ?d3 ?d4 ?d5 ?_) | go_in)
            case d0 => exact (hown.alloc _).alloc _
            case d1 => have := cell_two_new (wr.alloc (.cells #[.int .i64 x, .int .u64 y] 40)) (.int .i64 x) (.int .u64 y) 40; simpa using this
            case d2 => intro u hu; simp at hu; rcases hu with rfl | rfl <;> rfl
            case d3 => have := HML.out; unfold maxLen; omega
            case d4 => have := HML.out; omega
            case d5 => have := hbe.size; simp; omega
            · intro v' w1 hown' hgrow _
              have hlt3 := hown.lt
              have hbe1 : Below w.heap.size w w1 := ((hbe.alloc hbe.size _).alloc (by have := hbe.size; simp; omega) _).grown hgrow (by have := hbe.size; simp; omega) (fun g hg => (hlt3 g hg).1)
              rw [show wdVals l0 ++ [.int .i64 x, .int .u64 y] = wdVals (l0 ++ [(x, y)]) by rw [wdVals_append]; rfl] at hown'
              clear hown hgrow hbe hlt3 c0 c1
              go_wp2
              go_roundg (gk - 1)
              case measure => omega
              case rel => exact ⟨k + 1, _, by omega, by go_num, by rw [HST.out], by rw [HST.out]; exact hown', hbe1⟩
          · go_wp2_with (first | (at_builtin; refine wpList_append_own _ rfl (.tmp 53) (.tmp 55) 23 rfl w.heap.size 40 i0 (.agg #[.int .i64 0, .int .u64 0]) 2 16 Try.underlying23 hi hz0 hz1 hz2 rfl (by decide) u5 m (wdVals l0) rfl ?g0 ⟨wr.heap.size + 1, 0, none⟩ 1 1 [.int .i64 x, .int .u64 y] rfl rfl ?g1 ?g2 ?g3 ?g4 ?g5 ?_) | go_in)
            case g0 => exact (hown.alloc _).alloc _
            try (case g1 => have := cell_two_new (wr.alloc (.cells #[.int .i64 x, .int .u64 y] 40)) (.int .i64 x) (.int .u64 y) 40; simpa using this)
            case g2 => first | exact ⟨rfl, rfl⟩ | (intro u hu; simp at hu; rcases hu with rfl | rfl <;> rfl)
            case g3 => have := HML.out; unfold maxLen; omega
            case g4 => have := HML.out; omega
            case g5 => have := hbe.size; simp; omega
            · intro v' w1 hown' hgrow _
              have hlt3 := hown.lt
              have hbe1 : Below w.heap.size w w1 := ((hbe.alloc hbe.size _).alloc (by have := hbe.size; simp; omega) _).grown hgrow (by have := hbe.size; simp; omega) (fun g hg => (hlt3 g hg).1)
              rw [show wdVals l0 ++ [.int .i64 x, .int .u64 y] = wdVals (l0 ++ [(x, y)]) by rw [wdVals_append]; rfl] at hown'
              clear hown hgrow hbe hlt3 c0 c1
              go_wp2
              go_roundg (gk - 1)
              case measure => omega
              case rel => exact ⟨k + 1, _, by omega, by go_num, by rw [HST.out], by rw [HST.out]; exact hown', hbe1⟩
    · obtain rfl : k = s.length := by omega
      rw [List.take_length] at hown
      have hml : m = (wfold (n / 64) (p : Int) s).1.length := by have := hown.1; rw [wdVals_length] at this; omega
      have HML : Hid (m ≤ 2 * 16384) := by
        show m ≤ _
        rw [hml]
        have : (wfold (n / 64) (p : Int) s).1.length ≤ 0 + 2 * s.length := wfold_length (n / 64) (p : Int) s ([], false)
        omega
      have hnot : ∀ (x : Bool) (w : World), (Op.unary .not (.bool x)).run Try.prog w = .ok (.bool (!x)) w := fun _ _ => rfl
      clear hml
      rw [List.take_length]
      generalize wfold (n / 64) (p : Int) s = st at *
      obtain ⟨l0, th⟩ := st
      simp only at hown HW
      cases th
      · go_wp2_with (first | (go_at_call 26; refine (HBit.out _).mono ?_; rintro e u2 ⟨rfl, rfl⟩) | (at_builtin; refine wpList_append_own _ rfl (.tmp 59) (.tmp 65) 23 rfl w.heap.size 40 i0 (.agg #[.int .i64 0, .int .u64 0]) 2 16 Try.underlying23 hi hz0 hz1 hz2 rfl (by decide) u5 m (wdVals l0) rfl ?f0 ⟨wr.heap.size, 0, none⟩ 1 1 [.int .i64 (n / 64), .int .u64 (p : Int)] rfl rfl ?f1 ?f2 ?f3 ?f4 ?f5 ?_) | go_in)
        case f0 => exact hown.alloc _
        case f1 => exact cell_two_new wr _ _ _
        case f2 => intro u hu; simp at hu; rcases hu with rfl | rfl <;> rfl
        case f3 => have := HML.out; unfold maxLen; omega
        case f4 => have := HML.out; omega
        case f5 => have := hbe.size; simp; omega
        · intro v' w1 hown' hgrow _
          have hlt3 := hown.lt
          have hbe1 : Below w.heap.size w w1 := (hbe.alloc hbe.size _).grown hgrow (by have := hbe.size; simp; omega) (fun g hg => (hlt3 g hg).1)
          rw [show wdVals l0 ++ [.int .i64 (n / 64), .int .u64 (p : Int)] = wdVals (l0 ++ [(n / 64, (p : Int))]) by rw [wdVals_append]; rfl] at hown'
          clear hown hgrow hbe hlt3
          go_wp2
          go_ret
          refine ⟨v', m + 1, rfl, ?_, hbe1⟩
          rw [HW.out]; exact hown'
      · go_wp2
        go_ret
        refine ⟨u5, m, rfl, ?_, hbe⟩
        rw [HW.out]; exact hown
end Go.Proofs.Ytecfjjpdlohmnaa.SetWith
