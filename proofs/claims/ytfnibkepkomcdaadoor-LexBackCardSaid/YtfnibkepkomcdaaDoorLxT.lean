/- Walks over lex.Join; fescueref05.May, mayAll, line and Join. -/
import Derived.Test.YtfnibkepkomcdaaDoorLxN
import Derived.Laws.BytesArg
namespace Go.Proofs.YtfnibkepkomcdaaDoor.LxT
open Go.RowKit Go.Lib LxM LxP LxK LxJ LxS LxY LxO LxB LxN

set_option maxHeartbeats 1000000 in
theorem joinC_calls (va : Value) (l : List (List ByteArray)) (w : World) (hl : LinesAt w va l) (hf : Fits l) (ht : Tab w) :
    Calls Tryd.prog 9 #[va] w (JnR l w) := by
  have HC := hid (conL_calls va l w hl (fun x hx y hy => by have := hf.size x hx y hy; omega) ht)
  have HJ := hid (fun (h : l.any badL = false) (w1 : World) (hb : Below w.heap.size w w1) => join_calls va l w1 (hl.below hb) hf h)
  have HO := hid (fun (h : l.any badL = true) => jnE_odd (l := unL l) (by rw [← any_bad]; exact h))
  obtain ⟨ao, ac, rfl, hla⟩ := hl.slice
  clear hl hf ht
  generalize l.any badL = b at *
  cases b with
  | true =>
    have HE := hid (HO.out rfl)
    clear HO HJ
    go_enter Tryd.func9, Tryd.ntmps9
    go_wp2_with fail
    refine HC.out.mono ?_
    rintro e w1 ⟨rfl, hb⟩
    go_wp2
    go_ret2
    exact JnR.no HE.out (by decide) hb
  | false =>
    have HJ2 := hid (HJ.out rfl)
    clear HO HJ
    go_enter Tryd.func9, Tryd.ntmps9
    go_wp2_with fail
    refine HC.out.mono ?_
    rintro e w1 ⟨rfl, hb⟩
    have HJ3 := hid (HJ2.out w1 hb)
    go_wp2_with fail
    refine HJ3.out.mono ?_
    rintro e w2 ⟨rfl, hb2⟩
    have hbb := hb.trans (hb2.mono hb.size)
    go_wp2
    go_ret2
    exact ⟨rfl, hbb⟩

theorem kind_no {c : UInt8} (h : c.toNat = 32 ∨ c.toNat = 9 ∨ c.toNat = 13 ∨ c.toNat = 10 ∨ c.toNat = 35) : kindB c ≠ 0 := by
  unfold kindB
  (repeat' split) <;> omega
theorem kind_yes {c : UInt8} (h : ¬ (c.toNat = 32 ∨ c.toNat = 9 ∨ c.toNat = 13 ∨ c.toNat = 10 ∨ c.toNat = 35)) : kindB c = 0 := by
  unfold kindB
  (repeat' split) <;> omega

set_option maxHeartbeats 2000000 in
theorem mayR_calls (x : ByteArray) (hs : x.size ≤ 9223372036854775807) (w : World) :
    Calls Tryd.prog 43 #[.string x] w (BoolR (mayB (un x)) w) := by
  have HY := hid (may_yes (x := x))
  have HNO := hid (fun k h => may_no (x := x) (k := k) h)
  go_enter Tryd.func43, Tryd.ntmps43
  go_wp2
  go_loopg [3] x.size (fun gk i wr => ∃ k : Nat, k + gk = x.size ∧ i = .int .i64 k ∧ Hid (∀ j, j < k → kindS x j = 0) ∧ Below w.heap.size w wr)
  case atStart => exact ⟨0, by omega, rfl, (fun j h => by omega), Below.refl _ _⟩
  case round =>
    obtain ⟨k, hk, rfl, HA, hbe⟩ := hrel
    have HK := hid hk
    by_cases hlt : k < x.size
    · have hin := kindS_in hlt
      have h255 := u8_le x[k]
      have HN := hid (fun h => HNO.out k hlt (by rw [hin]; exact kind_no h))
      have HA2 : Hid (¬ (x[k].toNat = 32 ∨ x[k].toNat = 9 ∨ x[k].toNat = 13 ∨ x[k].toNat = 10 ∨ x[k].toNat = 35) → ∀ j, j < k + 1 → kindS x j = 0) := fun h j hj => by
        by_cases e : j = k
        · rw [e, hin]; exact kind_yes h
        · exact HA.out j (by omega)
      clear hk hin
      by_cases h32 : x[k].toNat = 32
      · have HE := hid (HN.out (by omega))
        have e32 : ((x[k].toNat : Int) == 32) = true := beq_iff_eq.2 (by omega)
        clear HN HA2 h32
        go_wp2
        go_ret
        exact ⟨by rw [HE.out]; rfl, hbe⟩
      by_cases h9 : x[k].toNat = 9
      · have HE := hid (HN.out (by omega))
        have e32 : ((x[k].toNat : Int) == 32) = false := beq_eq_false_iff_ne.2 (by omega)
        have e9 : ((x[k].toNat : Int) == 9) = true := beq_iff_eq.2 (by omega)
        clear HN HA2 h32 h9
        go_wp2
        go_ret
        exact ⟨by rw [HE.out]; rfl, hbe⟩
      by_cases h13 : x[k].toNat = 13
      · have HE := hid (HN.out (by omega))
        have e32 : ((x[k].toNat : Int) == 32) = false := beq_eq_false_iff_ne.2 (by omega)
        have e9 : ((x[k].toNat : Int) == 9) = false := beq_eq_false_iff_ne.2 (by omega)
        have e13 : ((x[k].toNat : Int) == 13) = true := beq_iff_eq.2 (by omega)
        clear HN HA2 h32 h9 h13
        go_wp2
        go_ret
        exact ⟨by rw [HE.out]; rfl, hbe⟩
      by_cases h10 : x[k].toNat = 10
      · have HE := hid (HN.out (by omega))
        have e32 : ((x[k].toNat : Int) == 32) = false := beq_eq_false_iff_ne.2 (by omega)
        have e9 : ((x[k].toNat : Int) == 9) = false := beq_eq_false_iff_ne.2 (by omega)
        have e13 : ((x[k].toNat : Int) == 13) = false := beq_eq_false_iff_ne.2 (by omega)
        have e10 : ((x[k].toNat : Int) == 10) = true := beq_iff_eq.2 (by omega)
        clear HN HA2 h32 h9 h13 h10
        go_wp2
        go_ret
        exact ⟨by rw [HE.out]; rfl, hbe⟩
      by_cases h35 : x[k].toNat = 35
      · have HE := hid (HN.out (by omega))
        have e32 : ((x[k].toNat : Int) == 32) = false := beq_eq_false_iff_ne.2 (by omega)
        have e9 : ((x[k].toNat : Int) == 9) = false := beq_eq_false_iff_ne.2 (by omega)
        have e13 : ((x[k].toNat : Int) == 13) = false := beq_eq_false_iff_ne.2 (by omega)
        have e10 : ((x[k].toNat : Int) == 10) = false := beq_eq_false_iff_ne.2 (by omega)
        have e35 : ((x[k].toNat : Int) == 35) = true := beq_iff_eq.2 (by omega)
        clear HN HA2 h32 h9 h13 h10 h35
        go_wp2
        go_ret
        exact ⟨by rw [HE.out]; rfl, hbe⟩
      have HA3 := hid (HA2.out (by omega))
      have e32 : ((x[k].toNat : Int) == 32) = false := beq_eq_false_iff_ne.2 (by omega)
      have e9 : ((x[k].toNat : Int) == 9) = false := beq_eq_false_iff_ne.2 (by omega)
      have e13 : ((x[k].toNat : Int) == 13) = false := beq_eq_false_iff_ne.2 (by omega)
      have e10 : ((x[k].toNat : Int) == 10) = false := beq_eq_false_iff_ne.2 (by omega)
      have e35 : ((x[k].toNat : Int) == 35) = false := beq_eq_false_iff_ne.2 (by omega)
      clear HN HA2 h32 h9 h13 h10 h35
      go_wp2
      go_roundg (gk - 1)
      case measure => have := HK.out; omega
      case rel => exact ⟨k + 1, by have := HK.out; omega, by go_num, HA3, hbe⟩
    · obtain rfl : k = x.size := by omega
      have HE := hid (HY.out HA.out)
      clear hk
      go_wp2
      go_ret
      exact ⟨by rw [HE.out]; show Ending.returned (Value.bool (!x.toList.isEmpty)) = _; rw [Lib.toList_data], hbe⟩
end Go.Proofs.YtfnibkepkomcdaaDoor.LxT
