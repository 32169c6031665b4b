/- Walk over fescuelaw03.TypesCells. -/
import Derived.Test.YtgimdoagccpcdaaTyLA
import Derived.Test.YtgimdoagccpcdaaTyN
namespace Go.Proofs.Ytgimdoagccpcdaa.TyLC
open Go.RowKit Go.Lib Go.Shelf SetP IntO TyM TyP TyB TyC TyD TyE TyS TyF TyH TyK TyQ TyRC TyRE TyW TyLA TyN

set_option maxHeartbeats 2000000 in
theorem walk (W : World) (v : Value) (t : List Ty) (S : TysAt W v t) (_ : ∀ x ∈ t, TyOk x) (k : Int) (_ : (Lit.int .i64 k).wf = true) :
    Calls Try.prog 7 #[v, .int .i64 k] W fun e W' => e = .returned (.bool true) ∧ Below W.heap.size W W' := by
  have HT := hid S
  have HAL := hid (alive_calls W)
  have HG := hid (fun wx (hb : Below W.heap.size W wx) => great_calls v t wx (S.below hb))
  have HC := hid (fun wx (hb : Below W.heap.size W wx) => cells_calls t v k wx (S.below hb))
  have HS := hid (fun c wx (hb : Below W.heap.size W wx) => isScalar_calls t v c wx (S.below hb))
  obtain ⟨ao, cap, rfl⟩ := S.slice
  clear S
  generalize greatB t = g at *
  generalize t.length = n at *
  cases g with
  | true =>
    clear HC HS
    go_enter Try.func7, Try.ntmps7
    go_wp2_with fail
    refine HAL.out.mono ?_
    rintro e w1 ⟨rfl, hb1⟩
    have HG1 := hid (HG.out w1 hb1)
    go_wp2_with fail
    refine HG1.out.mono ?_
    rintro e w2 ⟨rfl, hb2⟩
    have hbe := hb1.trans (hb2.mono hb1.size)
    go_wp2
    go_ret
    exact ⟨rfl, hbe⟩
  | false =>
    have HLO := hid (@list_own t k)
    have HLN := hid (@list_no t k)
    have HLP := hid (@list_plain t k)
    have HLS := hid (@list_some t k)
    have hll := list_len t k
    go_enter Try.func7, Try.ntmps7
    go_wp2_with fail
    refine HAL.out.mono ?_
    rintro e w1 ⟨rfl, hb1⟩
    have HG1 := hid (HG.out w1 hb1)
    go_wp2_with fail
    refine HG1.out.mono ?_
    rintro e w2 ⟨rfl, hb2⟩
    have hbe := hb1.trans (hb2.mono hb1.size)
    have HC1 := hid (HC.out w2 hbe)
    clear hb1 hb2 HG HG1 HAL HC
    go_wp2_with fail
    refine HC1.out.mono ?_
    rintro e w3 ⟨u, rfl, hu, hb3⟩
    have hbe3 := hbe.trans (hb3.mono hbe.size)
    have HS1 := hid (HS.out k w3 hbe3)
    have HU := hid hu
    obtain ⟨ua, uc, rfl, _⟩ := ints_slice hu
    clear hu hbe hb3 HC1
    go_wp2_with fail
    refine HS1.out.mono ?_
    rintro e w4 ⟨rfl, hb4⟩
    have hbe4 := hbe3.trans (hb4.mono hbe3.size)
    have HU4 := hid (HU.out.below hb4)
    clear hb4 hbe3 HS1 HU
    by_cases h0 : askT t k = 0
    · have HOWN := hid (HLO.out h0)
      have HPL := hid (HLP.out h0)
      have hls := HLS.out h0
      rw [h0]
      clear HLO HLN HLP HLS h0
      generalize hl : listT t k = l at *
      have HL := hid hl
      clear hl
      go_wp2
      go_loopg [10] l.length (fun gk i wr => ∃ j : Nat, j + gk = l.length ∧ i = .int .i64 j ∧ Below W.heap.size W wr ∧ IntsAt wr (.slice ua l.length uc) l)
      case atStart => exact ⟨0, by omega, rfl, hbe4, HU4.out⟩
      case round =>
        obtain ⟨j, hj, rfl, hbr, hur⟩ := hrel
        have HJ := hid hj
        have HUR := hid hur
        by_cases hlt : j < l.length
        · obtain ⟨b, off, rfl, _, hc⟩ := ints_at hur j hlt
          obtain ⟨q1, q2⟩ := HPL.out _ (List.getElem_mem hlt)
          clear hur hj
          generalize l[j] = c at *
          have HS2 := hid (HS.out c wr hbr)
          rw [q1, q2] at HS2
          clear q1 q2
          go_wp2_with fail
          refine HS2.out.mono ?_
          rintro e w5 ⟨rfl, hb5⟩
          have hbe5 := hbr.trans (hb5.mono hbr.size)
          have HU5 := hid (HUR.out.below hb5)
          clear hb5 hc
          go_wp2
          go_roundg (gk - 1)
          case measure => have := HJ.out; omega
          case rel => exact ⟨j + 1, by have := HJ.out; omega, by go_num, hbe5, HU5.out⟩
        · obtain rfl : j = l.length := by omega
          clear hj
          obtain ⟨b, off, rfl, _, hc⟩ := ints_at hur 0 (by omega)
          rw [Nat.add_zero] at hc
          have hls1 : (1 : Int) ≤ l.length := by omega
          have hls2 : (l.length : Int) ≤ 32 := by omega
          clear hur HUR HU4
          by_cases h1 : l.length = 1
          · obtain ⟨x, rfl⟩ : ∃ x, l = [x] := by
              match l, h1 with
              | [x], _ => exact ⟨x, rfl⟩
            have HX : Hid (isT t k = (x == k)) := by
              show _ = _
              rw [Bool.eq_iff_iff, HOWN.out]
              simp
            rw [HX.out]
            simp only [List.length_singleton, List.getElem_cons_zero] at *
            clear HX HOWN HPL HL h1
            by_cases hxk : x = k
            · subst hxk
              simp only [beq_self_eq_true]
              go_wp2
              go_ret
              exact ⟨rfl, hbr⟩
            · have hd : (x == k) = false := by simpa using hxk
              rw [hd]
              go_wp2
              go_ret
              exact ⟨rfl, hbr⟩
          · have HX : Hid (isT t k = false) := by
              show _ = _
              cases h : isT t k with
              | false => rfl
              | true => exact absurd (by rw [HOWN.out.1 h]; rfl) h1
            rw [HX.out]
            have hd : ((l.length : Int) == 1) = false := by simp; omega
            clear HX HOWN HPL HL h1 hc
            generalize l.length = ln at *
            go_wp2
            go_ret
            exact ⟨rfl, hbr⟩
    · obtain ⟨e1, e2⟩ := HLN.out h0
      rw [e1] at HU4 ⊢
      rw [e2]
      have hne : (askT t k != 0) = true := by simpa using h0
      clear HLO HLN HLP HLS h0 e1 e2 HS hll HU4
      generalize askT t k = er at *
      go_wp2
      go_ret
      exact ⟨by simp, hbe4⟩
end Go.Proofs.Ytgimdoagccpcdaa.TyLC
