/- Walks over bits.Has and bits.Same. -/
import Derived.Test.YtecfjjpdlohmnaaDoorBitCheck
import Derived.Test.YtecfjjpdlohmnaaDoorBitOfP
import Derived.Test.YtecfjjpdlohmnaaDoorSetCA
import Derived.Test.YtecfjjpdlohmnaaDoorSetSame
import Derived.Deep.LoopGhost
namespace Go.Proofs.YtecfjjpdlohmnaaDoor.BitHas
open Go.RowKit Go.Lib SetP SetO SetNum SetIn SetWith SetT SetW2 SetMay SetC SetSame BitCheck BitOfP

theorem bit_and_one (y : Int) (r : Nat) (h0 : 0 ≤ y) (h1 : y ≤ 18446744073709551615) : (bits .and .u64 (y / 2 ^ r) 1 == 1) = bitOf y r := by
  obtain ⟨z, rfl⟩ : ∃ z : Nat, y = (z : Int) := ⟨y.toNat, by omega⟩
  have e : ((z : Int) / 2 ^ r) = ((z / 2 ^ r : Nat) : Int) := by simp
  have hb := bits_and_u64_nat (z / 2 ^ r) 1 (Nat.lt_of_le_of_lt (Nat.div_le_self _ _) (by omega)) (by decide)
  rw [e]
  have e1 : ((1 : Nat) : Int) = 1 := rfl
  rw [e1] at hb
  rw [hb, Nat.and_one_is_mod, bitOf_testBit, Nat.testBit_eq_decide_div_mod_eq]
  rw [Bool.eq_iff_iff]
  simp only [beq_iff_eq, decide_eq_true_eq]
  omega

/-- what Has answers -/
def hasB (s : List Wd) (n : Int) : Bool := (hasS s n).1
def hasE (s : List Wd) (n : Int) : Int := (hasS s n).2

set_option maxHeartbeats 1000000 in
theorem has_calls (v : Value) (s : List Wd) (n : Int) (w : World) (hs : SetAt w v s) (hok : ∀ x ∈ s, WdOk x) :
    Calls Tryd.prog 9 #[v, .int .i64 n] w fun e w' => e = .returned (.tuple #[.bool (hasB s n), .int .i64 (hasE s n)]) ∧ Below w.heap.size w w' := by
  have HC := hid (BitCheck.check_calls v s w hs hok)
  have HM := hid (may_calls n)
  have hnot : ∀ (x : Bool) (w : World), (Op.unary .not (.bool x)).run Tryd.prog w = .ok (.bool (!x)) w := fun _ _ => rfl
  by_cases hm : MayW s
  · rw [chk_yes hm] at HC
    by_cases hp : 0 ≤ n ∧ n < 1048576
    · rw [decide_eq_true hp] at HM
      have e1 : hasB s n = inS s n := by unfold hasB hasS; rw [if_pos hm, if_pos hp]
      have e2 : hasE s n = 0 := by unfold hasE hasS; rw [if_pos hm, if_pos hp]
      rw [e1, e2]
      obtain ⟨n0, n1⟩ := hp
      have HWIN := hid hm.win
      have HSA := hid hs
      obtain ⟨ao, cap, rfl, hl, hmm, _⟩ := hs
      have HMM := hid hmm
      clear hm e1 e2 hmm hok
      go_enter Tryd.func9, Tryd.ntmps9
      go_wp2_with fail
      refine HC.out.mono ?_
      rintro e w1 ⟨rfl, hb1⟩
      go_wp2_with fail
      refine (HM.out w1).mono ?_
      rintro e w2 ⟨rfl, rfl⟩
      have HB1 := hid hb1
      clear hb1
      go_wp2_with fail
      go_loopg [19] s.length (fun g i wr => ∃ k : Nat, k + g = s.length ∧ i = .int .i64 k ∧ (∀ j (h : j < s.length), j < k → s[j].1 ≠ n / 64) ∧ Below w.heap.size w wr)
      case atStart => exact ⟨0, by omega, rfl, by omega, HB1.out⟩
      case round =>
        obtain ⟨k, hk, rfl, hg, hbe⟩ := hrel
        have HG := hid hg
        clear hg
        by_cases hlt : k < s.length
        · obtain ⟨b, off, rfl, hbs, hc⟩ := HMM.out (by omega)
          have c0 := (hbe.cell (p := ⟨b, _, none⟩) hbs).trans (hc k hlt).1
          have c1 := (hbe.cell (p := ⟨b, _, none⟩) hbs).trans (hc k hlt).2
          obtain ⟨x0, x1, y0, y1⟩ := HWIN.out _ (List.getElem_mem hlt)
          have HH := hid (fun hh => inS_hit (s := s) (n := n) hlt HG.out hh)
          have HX : Hid (s[k].1 ≠ n / 64 → ∀ j (h : j < s.length), j < k + 1 → s[j].1 ≠ n / 64) := by
            intro hne j hj hlt2
            rcases Nat.lt_succ_iff_lt_or_eq.1 hlt2 with h | rfl
            · exact HG.out j hj h
            · exact hne
          clear hc
          generalize s[k].1 = x at *
          generalize s[k].2 = y at *
          have hb2 := hbe.alloc hbe.size (.cells #[.int .i64 x, .int .u64 y] 34)
          by_cases hx : x = n / 64
          · have hx1 : (x == n / 64) = true := by simpa using hx
            have HI := hid (HH.out hx)
            obtain ⟨r, hr⟩ : ∃ r : Nat, n % 64 = (r : Int) := ⟨(n % 64).toNat, by omega⟩
            have hr2 : (n % 64).toNat = r := by omega
            have hr64 : r < 64 := by omega
            have hand := bit_and_one y r y0 y1
            have HE : Hid (inS s n = bitOf y r) := by rw [hr2] at HI; exact HI.out
            clear hx HH HX HI hr2
            go_wp2
            go_outline
            go_ret2
            exact ⟨by rw [HE.out]; rfl, hb2⟩
          · have hx1 : (x == n / 64) = false := by simpa using hx
            have HI := hid (HX.out hx)
            clear hx HH HX
            go_wp2
            go_roundg (gk - 1)
            case measure => omega
            case rel => exact ⟨k + 1, by omega, by go_num, HI.out, hb2⟩
        · have HN := hid (inS_none (s := s) (n := n) (fun j hj => HG.out j hj (by omega)))
          go_wp2
          go_ret2
          exact ⟨by rw [HN.out]; rfl, hbe⟩
    · rw [decide_eq_false hp] at HM
      have e1 : hasB s n = false := by unfold hasB hasS; rw [if_pos hm, if_neg hp]
      have e2 : hasE s n = 2 := by unfold hasE hasS; rw [if_pos hm, if_neg hp]
      rw [e1, e2]
      clear hm hs e1 e2 hp hok
      go_enter Tryd.func9, Tryd.ntmps9
      go_wp2_with fail
      refine HC.out.mono ?_
      rintro e w1 ⟨rfl, hb1⟩
      go_wp2_with fail
      refine (HM.out w1).mono ?_
      rintro e w2 ⟨rfl, rfl⟩
      go_wp2
      go_ret2
      exact ⟨rfl, hb1⟩
  · rw [chk_no hm] at HC
    have e1 : hasB s n = false := by unfold hasB hasS; rw [if_neg hm]
    have e2 : hasE s n = 8 := by unfold hasE hasS; rw [if_neg hm]
    rw [e1, e2]
    clear hm hs e1 e2 HM hok
    go_enter Tryd.func9, Tryd.ntmps9
    go_wp2_with fail
    refine HC.out.mono ?_
    rintro e w1 ⟨rfl, hb1⟩
    go_wp2
    go_ret2
    exact ⟨rfl, hb1⟩
end Go.Proofs.YtecfjjpdlohmnaaDoor.BitHas
