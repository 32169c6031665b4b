/- Walks over lex.Mark and fescueref05.Mark; lex.may, lex.odd and fescueref05.May. -/
import Derived.Test.YtfnibkepkomcdaaDoorLxS
import Derived.Test.YtfnibkepkomcdaaDoorNumH
namespace Go.Proofs.YtfnibkepkomcdaaDoor.LxY
open Go.RowKit Go.Lib LxM LxP LxK LxJ LxS NumP NumQ NumR NumG

/-- a mark's number, or the error -/
def mkN (s : ByteArray) (c : UInt8) : Int × Int := match un s with
  | [] => (0, 10)
  | x :: t => if x = c then NumG.sm t 999 else (0, 10)
def MkR (s : ByteArray) (c : UInt8) (w : World) (e : Ending) (w' : World) : Prop := e = .returned (.tuple #[.int .i64 (mkN s c).1, .int .i64 (mkN s c).2]) ∧ Below w.heap.size w w'
theorem mkN_nil {s : ByteArray} {c : UInt8} (h : s.size = 0) : mkN s c = (0, 10) := by
  unfold mkN
  have : un s = [] := List.eq_nil_of_length_eq_zero (by rw [un_len]; exact h)
  rw [this]
theorem un_cons {s : ByteArray} (h : 0 < s.size) : un s = s[0] :: un (s.extract 1 s.size) := by
  obtain ⟨h2, e⟩ := at_byte h
  rw [show un (s.extract 1 s.size) = _ from Lib.extract_data s 1 s.size, List.take_of_length_le (by rw [List.length_drop, un_len]; omega)]
  have := List.drop_eq_getElem_cons h2
  rw [List.drop_zero, e] at this
  exact this
theorem mkN_no {s : ByteArray} {c : UInt8} (h : 0 < s.size) (hc : s[0] ≠ c) : mkN s c = (0, 10) := by
  unfold mkN
  rw [un_cons h]
  exact if_neg hc
theorem mkN_yes {s : ByteArray} {c : UInt8} (h : 0 < s.size) (hc : s[0] = c) : mkN s c = NumG.sm (un (s.extract 1 s.size)) 999 := by
  unfold mkN
  rw [un_cons h]
  exact if_pos hc
theorem sm_cases (t : List UInt8) : (NumG.sm t 999).2 = 0 ∨ NumG.sm t 999 = (0, 10) := by
  unfold NumG.sm
  rw [if_neg (by omega)]
  split
  · exact .inl rfl
  · exact .inr rfl

set_option maxHeartbeats 1000000 in
theorem mark_calls (s : ByteArray) (hs : s.size ≤ 9223372036854775807) (c : UInt8) (w : World) :
    Calls Tryd.prog 15 #[.string s, .int .u8 (c.toNat : Int)] w (MkR s c w) := by
  have h255 := u8_le c
  by_cases h0 : s.size = 0
  · have HE := hid (mkN_nil (c := c) h0)
    have hse : s = ⟨#[]⟩ := by
      apply ByteArray.ext
      exact Array.eq_empty_of_size_eq_zero h0
    subst hse
    go_enter Tryd.func15, Tryd.ntmps15
    go_wp2
    go_ret2
    exact ⟨by rw [HE.out]; rfl, Below.refl _ _⟩
  · have hpos : 0 < s.size := by omega
    have hne : s.toList.isEmpty = false := by
      rw [Lib.toList_data]
      show (un s).isEmpty = false
      rw [un_cons hpos]; rfl
    by_cases hc : s[0] = c
    · have HE := hid (mkN_yes hpos hc)
      have hcc : ((s[0].toNat : Int) != (c.toNat : Int)) = false := by simp [hc]
      have hsx : (s.extract 1 s.size).size ≤ 9223372036854775807 := by rw [ByteArray.size_extract]; omega
      have HC := hid (small_calls (s.extract 1 s.size) hsx 999 w)
      unfold SmPost at HC
      clear hc
      go_enter Tryd.func15, Tryd.ntmps15
      go_wp2_with fail
      refine HC.out.mono ?_
      rintro e w1 ⟨rfl, hb⟩
      clear HC
      generalize NumG.sm (un (s.extract 1 s.size)) 999 = r at *
      go_wp2
      go_ret2
      exact ⟨by rw [HE.out]; rfl, hb⟩
    · have HE := hid (mkN_no hpos hc)
      have hcc : ((s[0].toNat : Int) != (c.toNat : Int)) = true := by
        simp only [bne_iff_ne, ne_eq]
        intro e
        exact hc (UInt8.toNat_inj.1 (by omega))
      clear hc
      go_enter Tryd.func15, Tryd.ntmps15
      go_wp2
      go_ret2
      exact ⟨by rw [HE.out]; rfl, Below.refl _ _⟩

set_option maxHeartbeats 1000000 in
theorem markR_calls (s : ByteArray) (hs : s.size ≤ 9223372036854775807) (c : UInt8) (w : World) :
    Calls Tryd.prog 16 #[.string s, .int .u8 (c.toNat : Int)] w (MkR s c w) := by
  have h255 := u8_le c
  by_cases h0 : s.size = 0
  · have HE := hid (mkN_nil (c := c) h0)
    have hse : s = ⟨#[]⟩ := by
      apply ByteArray.ext
      exact Array.eq_empty_of_size_eq_zero h0
    subst hse
    go_enter Tryd.func16, Tryd.ntmps16
    go_wp2
    go_ret2
    exact ⟨by rw [HE.out]; rfl, Below.refl _ _⟩
  · have hpos : 0 < s.size := by omega
    have hne : s.toList.isEmpty = false := by
      rw [Lib.toList_data]
      show (un s).isEmpty = false
      rw [un_cons hpos]; rfl
    by_cases hc : s[0] = c
    · have HE := hid (mkN_yes hpos hc)
      have hcc : ((s[0].toNat : Int) != (c.toNat : Int)) = false := by simp [hc]
      have hsx : (s.extract 1 s.size).size ≤ 9223372036854775807 := by rw [ByteArray.size_extract]; omega
      have HC := hid (NumH.ref_small_calls (s.extract 1 s.size) hsx 999 w)
      have hsm := sm_cases (un (s.extract 1 s.size))
      unfold SmPost at HC
      clear hc
      generalize NumG.sm (un (s.extract 1 s.size)) 999 = r at *
      obtain ⟨m, e⟩ := r
      simp only at hsm HC
      rcases hsm with rfl | hsm
      · go_enter Tryd.func16, Tryd.ntmps16
        go_wp2_with fail
        refine HC.out.mono ?_
        rintro e w1 ⟨rfl, hb⟩
        clear HC
        go_wp2
        go_ret2
        exact ⟨by rw [HE.out]; rfl, hb⟩
      · cases hsm
        go_enter Tryd.func16, Tryd.ntmps16
        go_wp2_with fail
        refine HC.out.mono ?_
        rintro e w1 ⟨rfl, hb⟩
        clear HC
        go_wp2
        go_ret2
        exact ⟨by rw [HE.out]; rfl, hb⟩
    · have HE := hid (mkN_no hpos hc)
      have hcc : ((s[0].toNat : Int) != (c.toNat : Int)) = true := by
        simp only [bne_iff_ne, ne_eq]
        intro e
        exact hc (UInt8.toNat_inj.1 (by omega))
      clear hc
      go_enter Tryd.func16, Tryd.ntmps16
      go_wp2
      go_ret2
      exact ⟨by rw [HE.out]; rfl, Below.refl _ _⟩

/-! words that may be -/
theorem may_no {x : ByteArray} {k : Nat} (h : k < x.size) (hk : kindS x k ≠ 0) : mayB (un x) = false := by
  rw [kindS_in h] at hk
  obtain ⟨h2, e⟩ := at_byte h
  cases hm : mayB (un x) with
  | false => rfl
  | true => exact absurd (by rw [← e]; exact (mayB_iff.1 hm).2 _ (List.getElem_mem h2)) hk
theorem may_yes {x : ByteArray} (h : ∀ k, k < x.size → kindS x k = 0) : mayB (un x) = !(un x).isEmpty := by
  cases he : un x with
  | nil => rfl
  | cons a t =>
    rw [← he]
    rw [mayB_iff.2 ⟨by rw [he]; simp, fun c hc => ?_⟩]
    · rw [he]; rfl
    · obtain ⟨k, hk, rfl⟩ := List.getElem_of_mem hc
      have hk2 : k < x.size := by rw [un_len] at hk; exact hk
      have := h k hk2
      rw [kindS_in hk2] at this
      exact this

set_option maxHeartbeats 1000000 in
theorem may_calls (x : ByteArray) (hs : x.size ≤ 9223372036854775807) (w : World) (ht : Tab w) :
    Calls Tryd.prog 36 #[.string x] w (BoolR (mayB (un x)) w) := by
  have HT := hid ht
  have HY := hid (may_yes (x := x))
  have HNO := hid (fun k h => may_no (x := x) (k := k) h)
  clear ht
  go_enter Tryd.func36, Tryd.ntmps36
  go_wp2
  go_loopg [6] x.size (fun gk i wr => ∃ k : Nat, k + gk = x.size ∧ i = .int .i64 k ∧ Hid (∀ j, j < k → kindS x j = 0) ∧ Below w.heap.size w wr)
  case atStart => exact ⟨0, by omega, rfl, (fun j h => by omega), Below.refl _ _⟩
  case round =>
    obtain ⟨k, hk, rfl, HA, hbe⟩ := hrel
    have HK := hid hk
    by_cases hlt : k < x.size
    · have HC := hid (kindAt_calls x k (by omega) wr (HT.out.on hbe))
      clear hk
      by_cases hz : kindS x k = 0
      · have HA2 : Hid (∀ j, j < k + 1 → kindS x j = 0) := fun j hj => by
          by_cases e : j = k
          · rw [e]; exact hz
          · exact HA.out j (by omega)
        rw [hz] at HC
        clear hz
        go_wp2_with fail
        refine HC.out.mono ?_
        rintro e w1 ⟨rfl, rfl⟩
        go_wp2
        go_roundg (gk - 1)
        case measure => have := HK.out; omega
        case rel => exact ⟨k + 1, by have := HK.out; omega, by go_num, HA2, hbe⟩
      · have HN := hid (HNO.out k hlt hz)
        generalize kindS x k = kd at *
        have hne : ((kd : Int) != 0) = true := by simp; omega
        go_wp2_with fail
        refine HC.out.mono ?_
        rintro e w1 ⟨rfl, rfl⟩
        go_wp2
        go_ret
        exact ⟨by rw [HN.out]; rfl, hbe⟩
    · obtain rfl : k = x.size := by omega
      have HE := hid (HY.out HA.out)
      clear hk
      go_wp2
      go_ret
      exact ⟨by rw [HE.out]; show Ending.returned (Value.bool (!x.toList.isEmpty)) = _; rw [Lib.toList_data], hbe⟩
theorem oddw_calls (x : ByteArray) (hs : x.size ≤ 9223372036854775807) (w : World) (ht : Tab w) :
    Calls Tryd.prog 35 #[.string x] w (BoolR (!mayB (un x)) w) := by
  have HC := hid (may_calls x hs w ht)
  generalize mayB (un x) = b at *
  go_enter Tryd.func35, Tryd.ntmps35
  go_wp2_with fail
  refine HC.out.mono ?_
  rintro e w1 ⟨rfl, hb⟩
  go_wp2
  go_ret
  exact ⟨rfl, hb⟩
end Go.Proofs.YtfnibkepkomcdaaDoor.LxY
