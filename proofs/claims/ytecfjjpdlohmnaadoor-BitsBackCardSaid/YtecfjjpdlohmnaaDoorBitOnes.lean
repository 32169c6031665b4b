/- Walk over math/bits.OnesCount64; and over bits.Size. -/
import Derived.Test.YtecfjjpdlohmnaaDoorBitOnesP
import Derived.Test.YtecfjjpdlohmnaaDoorBitCheck
import Derived.Test.YtecfjjpdlohmnaaDoorSetGP
import Derived.Laws.Bits64b
import Derived.Deep.LoopGhost
namespace Go.Proofs.YtecfjjpdlohmnaaDoor.BitOnes
open Go.RowKit Go.Lib SetP SetO SetNum SetIn SetWith SetT SetW2 BitOnesP BitCheck

theorem S1_bound : ∀ (n x : Nat), 3 * S1 n x + 2 ≤ 2 * 4 ^ n
  | 0, x => by rw [S1_zero]; decide
  | n + 1, x => by
    have ih := S1_bound n (x / 4)
    have := ones_le 2 x
    rw [S1_succ, Nat.pow_succ]; omega
theorem T2_bound : ∀ (n x : Nat), 15 * T2 n x + 4 ≤ 4 * 16 ^ n
  | 0, x => by rw [T2_zero]; decide
  | n + 1, x => by
    have ih := T2_bound n (x / 16)
    have := ones_le 4 x
    rw [T2_succ, Nat.pow_succ]; omega

theorem R1 : R 2 1 32 = 6148914691236517205 := by decide
theorem R2 : R 4 3 16 = 3689348814741910323 := by decide
theorem R3 : R 8 15 8 = 1085102592571150095 := by decide
theorem st1 (x : Nat) (hx : x < 18446744073709551616) : IntKind.u64.wrap (bits .and .u64 ((x : Int) / 2) 6148914691236517205 + bits .and .u64 (x : Int) 6148914691236517205) = ((S1 32 x : Nat) : Int) := by
  have a := bits_and_u64_nat (x / 2) 6148914691236517205 (by omega) (by decide)
  have b := bits_and_u64_nat x 6148914691236517205 hx (by decide)
  have c : ((6148914691236517205 : Nat) : Int) = 6148914691236517205 := rfl
  rw [c] at a b
  rw [show ((x : Int) / 2) = ((x / 2 : Nat) : Int) by omega, a, b, IntKind.wrap_u64]
  have hb := S1_bound 32 x
  have e : (4 : Nat) ^ 32 = 18446744073709551616 := by decide
  unfold S1 at hb ⊢
  rw [R1] at hb ⊢
  generalize (x / 2 &&& 6148914691236517205) = p at *
  generalize (x &&& 6148914691236517205) = q at *
  omega
theorem st2 (x : Nat) : IntKind.u64.wrap (bits .and .u64 (((S1 32 x : Nat) : Int) / 4) 3689348814741910323 + bits .and .u64 ((S1 32 x : Nat) : Int) 3689348814741910323) = ((T2 16 x : Nat) : Int) := by
  have hs := S1_bound 32 x
  have e : (4 : Nat) ^ 32 = 18446744073709551616 := by decide
  have hb := T2_bound 16 x
  have e2 : (16 : Nat) ^ 16 = 18446744073709551616 := by decide
  unfold T2 S2 at hb ⊢
  rw [show 2 * 16 = 32 from rfl] at hb ⊢
  generalize S1 32 x = y at *
  have a := bits_and_u64_nat (y / 4) 3689348814741910323 (by omega) (by decide)
  have b := bits_and_u64_nat y 3689348814741910323 (by omega) (by decide)
  have c : ((3689348814741910323 : Nat) : Int) = 3689348814741910323 := rfl
  rw [c] at a b
  rw [show ((y : Int) / 4) = ((y / 4 : Nat) : Int) by omega, a, b, IntKind.wrap_u64]
  rw [R2] at hb ⊢
  generalize (y / 4 &&& 3689348814741910323) = p at *
  generalize (y &&& 3689348814741910323) = q at *
  omega
theorem st3 (x : Nat) : bits .and .u64 (IntKind.u64.wrap (((T2 16 x : Nat) : Int) / 16 + ((T2 16 x : Nat) : Int))) 1085102592571150095 = ((T3 8 x : Nat) : Int) := by
  have hb := T2_bound 16 x
  have e2 : (16 : Nat) ^ 16 = 18446744073709551616 := by decide
  unfold T3 S3
  rw [show 2 * 8 = 16 from rfl, R3]
  generalize T2 16 x = y at *
  have h : IntKind.u64.wrap ((y : Int) / 16 + (y : Int)) = ((y / 16 + y : Nat) : Int) := by rw [IntKind.wrap_u64]; omega
  have a := bits_and_u64_nat (y / 16 + y) 1085102592571150095 (by omega) (by decide)
  have c : ((1085102592571150095 : Nat) : Int) = 1085102592571150095 := rfl
  rw [c] at a
  rw [h, a]
theorem st4 (x : Nat) : IntKind.u64.wrap (((T3 8 x : Nat) : Int) + ((T3 8 x : Nat) : Int) / 256) = ((F1 (T3 8 x) : Nat) : Int) ∧
    IntKind.u64.wrap (((F1 (T3 8 x) : Nat) : Int) + ((F1 (T3 8 x) : Nat) : Int) / 65536) = ((F2 (F1 (T3 8 x)) : Nat) : Int) ∧
    IntKind.u64.wrap (((F2 (F1 (T3 8 x)) : Nat) : Int) + ((F2 (F1 (T3 8 x)) : Nat) : Int) / 4294967296) = ((F3 (F2 (F1 (T3 8 x))) : Nat) : Int) ∧ F3 (F2 (F1 (T3 8 x))) % 128 = ones 64 x ∧ F3 (F2 (F1 (T3 8 x))) < 9223372036854775808 := by
  obtain ⟨c0, c1, c2, c3, c4, c5, c6, c7, h0, h1, h2, h3, h4, h5, h6, h7, hz, hs⟩ := T3_eight x
  generalize T3 8 x = z at *
  obtain ⟨b1, b2, b3, b4⟩ := sum_bytes h0 h1 h2 h3 h4 h5 h6 h7 hz
  rw [hs] at b4
  refine ⟨?_, ?_, ?_, b4, b3⟩
  · rw [IntKind.wrap_u64]; unfold F1 at *; omega
  · generalize F1 z = u at *
    rw [IntKind.wrap_u64]; unfold F2 at *; omega
  · generalize F2 (F1 z) = u at *
    rw [IntKind.wrap_u64]; unfold F3 at *; omega

theorem and_low7 (y : Nat) (h : y < 9223372036854775808) : bits .and .i64 (y : Int) 127 = ((y % 128 : Nat) : Int) := by
  have h1 : (BitVec.ofInt 64 (y : Int)).toNat = y := by
    rw [BitVec.ofInt_natCast, BitVec.toNat_ofNat]; exact Nat.mod_eq_of_lt (by omega)
  have h2 : (BitVec.ofInt 64 (127 : Int)).toNat = 127 := by decide
  show IntKind.i64.wrap ((BitVec.ofInt 64 (y : Int) &&& BitVec.ofInt 64 (127 : Int)).toNat : Int) = _
  rw [BitVec.toNat_and, h1, h2]
  have := Nat.and_two_pow_sub_one_eq_mod y 7
  simp only [show 2 ^ 7 - 1 = 127 by decide] at this
  rw [this, IntKind.wrap_i64]; omega

set_option maxRecDepth 100000 in
theorem ones_calls (x : Nat) (hx : x < 18446744073709551616) (w : World) :
    Calls Tryd.prog 30 #[.int .u64 (x : Int)] w fun e w' => e = .returned (.int .i64 (ones 64 x : Nat)) ∧ w = w' := by
  have e1 := st1 x hx
  have e2 := st2 x
  have e3 := st3 x
  obtain ⟨e4, e5, e6, h7, h8⟩ := st4 x
  have H7 := hid h7
  have H8 := hid h8
  have h9 := and_low7 _ h8
  rw [h7] at h9
  generalize S1 32 x = y1 at *
  generalize T2 16 x = y2 at *
  generalize F3 (F2 (F1 (T3 8 x))) = y6 at *
  generalize F2 (F1 (T3 8 x)) = y5 at *
  generalize F1 (T3 8 x) = y4 at *
  generalize T3 8 x = y3 at *
  have hx0 : (0 : Int) ≤ (x : Int) := by omega
  have hy1 : (0 : Int) ≤ (y1 : Int) := by omega
  have hy2 : (0 : Int) ≤ (y2 : Int) := by omega
  have hy3 : (0 : Int) ≤ (y3 : Int) := by omega
  have hy4 : (0 : Int) ≤ (y4 : Int) := by omega
  have hy5 : (0 : Int) ≤ (y5 : Int) := by omega
  have hy6 : (y6 : Int) ≤ 9223372036854775807 := by omega
  have hy60 : (0 : Int) ≤ (y6 : Int) := by omega
  have HX := hid hx
  clear h7 h8 hx
  go_enter Tryd.func30, Tryd.ntmps30
  go_wp2
  go_ret
  exact ⟨rfl, rfl⟩

theorem ones_some (x : Nat) (hx : x < 18446744073709551616) : ∃ o : Nat, o ≤ 64 ∧ (∀ a, (bitNums a x 64).length = o) ∧
    ∀ w, Calls Tryd.prog 30 #[.int .u64 (x : Int)] w fun e w' => e = .returned (.int .i64 (o : Int)) ∧ w = w' :=
  ⟨_, ones_le 64 x, fun a => ones_bits a x 64, fun w => ones_calls x hx w⟩

/-- what Size answers -/
def sizeI (s : List Wd) : Int := if MayW s then ((numbers s).length : Int) else 0

set_option maxHeartbeats 1000000 in
theorem size_calls (v : Value) (s : List Wd) (w : World) (hs : SetAt w v s) (hok : ∀ x ∈ s, WdOk x) :
    Calls Tryd.prog 13 #[v] w fun e w' => e = .returned (.tuple #[.int .i64 (sizeI s), .int .i64 (chk s)]) ∧ Below w.heap.size w w' := by
  have HC := hid (BitCheck.check_calls v s w hs hok)
  by_cases hm : MayW s
  · rw [chk_yes hm] at HC
    have e1 : sizeI s = ((numbers s).length : Int) := if_pos hm
    have hlen := may_length hm
    rw [e1, chk_yes hm]
    have HWIN := hid hm.win
    have HONE := hid ones_some
    obtain ⟨ao, cap, rfl, hl, hmm, _⟩ := hs
    have HMM := hid hmm
    clear hm e1 hmm hok
    go_enter Tryd.func13, Tryd.ntmps13
    go_wp2_with fail
    refine HC.out.mono ?_
    rintro e w1 ⟨rfl, hb1⟩
    have HB1 := hid hb1
    clear hb1
    go_wp2_with fail
    go_loopg [5, 15] s.length (fun g c i wr => ∃ k : Nat, k + g = s.length ∧ i = .int .i64 k ∧ c = .int .i64 ((numbers (s.take k)).length : Int) ∧ Below w.heap.size w wr)
    case atStart => exact ⟨0, by omega, rfl, rfl, HB1.out⟩
    case round =>
      obtain ⟨k, hk, rfl, rfl, hbe⟩ := hrel
      by_cases hlt : k < s.length
      · obtain ⟨b, off, rfl, hbs, hc⟩ := HMM.out (by omega)
        have c0 := (hbe.cell (p := ⟨b, _, none⟩) hbs).trans (hc k hlt).1
        have c1 := (hbe.cell (p := ⟨b, _, none⟩) hbs).trans (hc k hlt).2
        obtain ⟨x0, x1, y0, y1⟩ := HWIN.out _ (List.getElem_mem hlt)
        have hnt := congrArg List.length (numbers_take hlt)
        rw [List.length_append] at hnt
        have hnl := numbers_length (s.take k)
        have htl : (s.take k).length ≤ k := List.length_take_le _ _
        clear hc
        generalize s[k].1 = x at *
        obtain ⟨y, hy⟩ : ∃ y : Nat, s[k].2 = (y : Int) := ⟨s[k].2.toNat, by omega⟩
        rw [hy] at c1 y1
        rw [hy, Int.toNat_natCast] at hnt
        obtain ⟨o, hol, hoe, hoc⟩ := HONE.out y (by omega)
        rw [hoe] at hnt
        have HO := hid hoc
        clear hoe hoc
        generalize (numbers (s.take k)).length = q at *
        have HNT := hid hnt
        have hb2 := hbe.alloc hbe.size (.cells #[.int .i64 x, .int .u64 (y : Int)] 34)
        clear hnt hy y0
        go_wp2_with fail
        refine (HO.out _).mono ?_
        rintro e w2 ⟨rfl, rfl⟩
        go_wp2
        go_roundg (gk - 1)
        case measure => omega
        case rel => exact ⟨k + 1, by omega, by go_num, by rw [HNT.out]; go_num, hb2⟩
      · obtain rfl : k = s.length := by omega
        rw [List.take_length]
        go_wp2
        go_ret2
        exact ⟨rfl, hbe⟩
  · rw [chk_no hm] at HC
    have e1 : sizeI s = 0 := if_neg hm
    rw [e1, chk_no hm]
    clear hm hs e1 hok
    go_enter Tryd.func13, Tryd.ntmps13
    go_wp2_with fail
    refine HC.out.mono ?_
    rintro e w1 ⟨rfl, hb1⟩
    go_wp2
    go_ret2
    exact ⟨rfl, hb1⟩
end Go.Proofs.YtecfjjpdlohmnaaDoor.BitOnes
