/- Walk over fescueref01.Read: it answers 'rd'. -/
import Derived.Test.YtfnibkepkomcdaaDoorNumW
import Derived.Test.YtfnibkepkomcdaaDoorNumQ
namespace Go.Proofs.YtfnibkepkomcdaaDoor.NumR
open Go.RowKit Go.Lib NumP NumQ NumW

def RdPost (l : List UInt8) (w : World) (e : Ending) (w' : World) : Prop :=
  e = .returned (.tuple #[.int .i64 (rd l).1, .int .i64 (rd l).2]) ∧ Below w.heap.size w w'

theorem rdpost_none {l : List UInt8} {w w' : World} (h : rd l = (0, 10)) (hb : Below w.heap.size w w') : RdPost l w (.returned (.tuple #[.int .i64 0, .int .i64 10])) w' := ⟨by rw [h], hb⟩

set_option maxHeartbeats 400000 in
theorem read_neg (s : ByteArray) (hs : s.size ≤ 9223372036854775807) (w : World) (h1 : ¬ s.size < 1) (h2 : ¬ 20 < s.size) (h0 : 0 < s.size) (hat : atOf s.data.toList = if s[0].toNat = 45 then 1 else 0)
    (HG : Hid (∀ k (h : k < s.size), s.data.toList.getD k 0 = s[k])) (HL : Hid (s.data.toList.length = s.size)) (h45 : s[0].toNat = 45) :
    Calls Tryd.prog 42 #[.string s] w (RdPost s.data.toList w) := by
  have ha : atOf s.data.toList = 1 := by rw [hat, if_pos h45]
  have h45' : ((s[0].toNat : Int) == 45) = true := by simp; omega
  have HA := hid ha
  clear ha hat
  · go_enter Tryd.func42, Tryd.ntmps42
    go_wp2
    go_loop [5, 6] (fun x i => ∃ k : Nat, atOf s.data.toList ≤ k ∧ k ≤ s.size ∧ i = .int .i64 k ∧ x = .int .u64 (val (seg s.data.toList (atOf s.data.toList) k)) ∧ ∀ c ∈ seg s.data.toList (atOf s.data.toList) k, isDig c = true) (fun _ i => s.size - (intOf i).toNat)
    case atStart => exact ⟨1, by rw [HA.out]; omega, by omega, rfl, by rw [HA.out, seg_nil]; rfl, by rw [HA.out, seg_nil]; simp⟩
    case round =>
      obtain ⟨k, hk1, hk2, rfl, rfl, hdig⟩ := hrel
      have hvl := val_le _ hdig
      rw [seg_length _ _ _ (by rw [HL.out]; omega)] at hvl
      have hvl2 : 10 ^ (k - atOf s.data.toList) ≤ 10 ^ 19 := Nat.pow_le_pow_right (by decide) (by rw [HA.out]; omega)
      have HD := hid hdig
      clear hdig
      by_cases hlt : k < s.size
      · have hsn := seg_snoc hk1 (by rw [HL.out]; omega)
        rw [HG.out k hlt] at hsn
        have hvs : val (seg s.data.toList (atOf s.data.toList) (k + 1)) = 10 * val (seg s.data.toList (atOf s.data.toList) k) + (s[k].toNat - 48) := by rw [hsn, val_snoc]
        have HV := hid hvs
        have HS := hid hsn
        clear hvs hsn
        have hvl3 : val (seg s.data.toList (atOf s.data.toList) k) < 10 ^ 18 := by
          refine Nat.lt_of_lt_of_le hvl (Nat.pow_le_pow_right (by decide) (by rw [HA.out]; omega))
        clear hvl hvl2
        have hvl4 : ((val (seg s.data.toList (atOf s.data.toList) k) : Nat) : Int) ≤ 1000000000000000000 := by
          have : (10 : Nat) ^ 18 = 1000000000000000000 := by decide
          omega
        clear hvl3
        by_cases hdg : isDig s[k] = true
        · have hdg1 := (isDig_iff _).1 hdg
          obtain ⟨hd1, hd2⟩ := hdg1
          clear hdg
          generalize hv : val (seg s.data.toList (atOf s.data.toList) k) = v at *
          clear hv
          go_wp2
          go_round
          case rel => exact ⟨k + 1, by omega, by omega, by go_num, by rw [HV.out]; go_num, by
            rw [HS.out]
            intro c hc
            rcases List.mem_append.1 hc with h | h
            · exact HD.out c h
            · rw [List.mem_singleton.1 h, isDig_iff]; exact ⟨hd1, hd2⟩⟩
          case measure => simp [intOf]; omega
        · have hdg1 : isDig s[k] = false := by simpa using hdg
          have hd := (isDig_false _).1 hdg1
          have hrd := rd_nondig hk1 (by rw [HL.out]; exact hlt) (by rw [HG.out k hlt]; exact hdg1)
          have HR := hid hrd
          clear hrd hdg1 hdg
          go_wp2
          all_goals
            go_ret2
            exact rdpost_none HR.out (Below.refl _ _)
      · obtain rfl : k = s.size := by omega
        have hrf := rd_fin s.data.toList
        rw [← seg_all, HL.out] at hrf
        have hfin : fin (atOf s.data.toList) (val (seg s.data.toList (atOf s.data.toList) s.size)) = wrap64 (-wrap64 ↑(val (seg s.data.toList (atOf s.data.toList) s.size))) := by rw [HA.out, fin_one]
        rw [hfin] at hrf
        have HR := hid hrf
        clear hrf hfin
        go_wp2_with fail
        generalize hM : wrap64 (-wrap64 ↑(val (seg s.data.toList (atOf s.data.toList) s.size))) = M at *
        have hMi : I64 M := by rw [← hM]; exact wrap64_i64 _
        clear hM
        refine (write_calls M hMi w).mono ?_
        rintro e w1 ⟨rfl, hb⟩
        go_wp2
        · have hq : (!itoa M == s.toList) = true := by assumption
          go_ret2
          refine rdpost_none ?_ hb
          rw [HR.out, if_neg]
          rw [ByteArray.toList_eq] at hq
          simpa using hq
        · have hq : (!itoa M == s.toList) = false := by assumption
          go_ret2
          refine ⟨?_, hb⟩
          rw [HR.out, if_pos]
          · rfl
          · rw [ByteArray.toList_eq] at hq
            simpa using hq


set_option maxHeartbeats 400000 in
theorem read_pos (s : ByteArray) (hs : s.size ≤ 9223372036854775807) (w : World) (h1 : ¬ s.size < 1) (h2 : ¬ 20 < s.size) (h0 : 0 < s.size) (hat : atOf s.data.toList = if s[0].toNat = 45 then 1 else 0)
    (HG : Hid (∀ k (h : k < s.size), s.data.toList.getD k 0 = s[k])) (HL : Hid (s.data.toList.length = s.size)) (h45 : ¬ s[0].toNat = 45) :
    Calls Tryd.prog 42 #[.string s] w (RdPost s.data.toList w) := by
  have ha : atOf s.data.toList = 0 := by rw [hat, if_neg h45]
  have h45' : ((s[0].toNat : Int) == 45) = false := by simp; omega
  have HA := hid ha
  clear ha hat
  by_cases h19 : 19 < s.size
  · go_enter Tryd.func42, Tryd.ntmps42
    go_wp2
    go_ret2
    exact rdpost_none (rd_long2 (by rw [HA.out, HL.out]; omega)) (Below.refl _ _)
  · go_enter Tryd.func42, Tryd.ntmps42
    go_wp2
    go_loop [5, 6] (fun x i => ∃ k : Nat, atOf s.data.toList ≤ k ∧ k ≤ s.size ∧ i = .int .i64 k ∧ x = .int .u64 (val (seg s.data.toList (atOf s.data.toList) k)) ∧ ∀ c ∈ seg s.data.toList (atOf s.data.toList) k, isDig c = true) (fun _ i => s.size - (intOf i).toNat)
    case atStart => exact ⟨0, by rw [HA.out]; omega, by omega, rfl, by rw [HA.out, seg_nil]; rfl, by rw [HA.out, seg_nil]; simp⟩
    case round =>
      obtain ⟨k, hk1, hk2, rfl, rfl, hdig⟩ := hrel
      have hvl := val_le _ hdig
      rw [seg_length _ _ _ (by rw [HL.out]; omega)] at hvl
      have hvl2 : 10 ^ (k - atOf s.data.toList) ≤ 10 ^ 19 := Nat.pow_le_pow_right (by decide) (by rw [HA.out]; omega)
      have HD := hid hdig
      clear hdig
      by_cases hlt : k < s.size
      · have hsn := seg_snoc hk1 (by rw [HL.out]; omega)
        rw [HG.out k hlt] at hsn
        have hvs : val (seg s.data.toList (atOf s.data.toList) (k + 1)) = 10 * val (seg s.data.toList (atOf s.data.toList) k) + (s[k].toNat - 48) := by rw [hsn, val_snoc]
        have HV := hid hvs
        have HS := hid hsn
        clear hvs hsn
        have hvl3 : val (seg s.data.toList (atOf s.data.toList) k) < 10 ^ 18 := by
          refine Nat.lt_of_lt_of_le hvl (Nat.pow_le_pow_right (by decide) (by rw [HA.out]; omega))
        clear hvl hvl2
        have hvl4 : ((val (seg s.data.toList (atOf s.data.toList) k) : Nat) : Int) ≤ 1000000000000000000 := by
          have : (10 : Nat) ^ 18 = 1000000000000000000 := by decide
          omega
        clear hvl3
        by_cases hdg : isDig s[k] = true
        · have hdg1 := (isDig_iff _).1 hdg
          obtain ⟨hd1, hd2⟩ := hdg1
          clear hdg
          generalize hv : val (seg s.data.toList (atOf s.data.toList) k) = v at *
          clear hv
          go_wp2
          go_round
          case rel => exact ⟨k + 1, by omega, by omega, by go_num, by rw [HV.out]; go_num, by
            rw [HS.out]
            intro c hc
            rcases List.mem_append.1 hc with h | h
            · exact HD.out c h
            · rw [List.mem_singleton.1 h, isDig_iff]; exact ⟨hd1, hd2⟩⟩
          case measure => simp [intOf]; omega
        · have hdg1 : isDig s[k] = false := by simpa using hdg
          have hd := (isDig_false _).1 hdg1
          have hrd := rd_nondig hk1 (by rw [HL.out]; exact hlt) (by rw [HG.out k hlt]; exact hdg1)
          have HR := hid hrd
          clear hrd hdg1 hdg
          go_wp2
          all_goals
            go_ret2
            exact rdpost_none HR.out (Below.refl _ _)
      · obtain rfl : k = s.size := by omega
        have hrf := rd_fin s.data.toList
        rw [← seg_all, HL.out] at hrf
        have hfin : fin (atOf s.data.toList) (val (seg s.data.toList (atOf s.data.toList) s.size)) = wrap64 ↑(val (seg s.data.toList (atOf s.data.toList) s.size)) := by rw [HA.out, fin_zero]
        rw [hfin] at hrf
        have HR := hid hrf
        clear hrf hfin
        go_wp2_with fail
        generalize hM : wrap64 ↑(val (seg s.data.toList (atOf s.data.toList) s.size)) = M at *
        have hMi : I64 M := by rw [← hM]; exact wrap64_i64 _
        clear hM
        refine (write_calls M hMi w).mono ?_
        rintro e w1 ⟨rfl, hb⟩
        go_wp2
        · have hq : (!itoa M == s.toList) = true := by assumption
          go_ret2
          refine rdpost_none ?_ hb
          rw [HR.out, if_neg]
          rw [ByteArray.toList_eq] at hq
          simpa using hq
        · have hq : (!itoa M == s.toList) = false := by assumption
          go_ret2
          refine ⟨?_, hb⟩
          rw [HR.out, if_pos]
          · rfl
          · rw [ByteArray.toList_eq] at hq
            simpa using hq


set_option maxHeartbeats 400000 in
theorem read_calls (s : ByteArray) (hs : s.size ≤ 9223372036854775807) (w : World) :
    Calls Tryd.prog 42 #[.string s] w (RdPost s.data.toList w) := by
  have hlen : s.data.toList.length = s.size := Array.length_toList
  by_cases h1 : s.size < 1
  · go_enter Tryd.func42, Tryd.ntmps42
    go_wp2
    go_ret2
    exact rdpost_none (rd_long (by omega)) (Below.refl _ _)
  by_cases h2 : 20 < s.size
  · go_enter Tryd.func42, Tryd.ntmps42
    go_wp2
    go_ret2
    exact rdpost_none (rd_long (by omega)) (Below.refl _ _)
  have h0 : 0 < s.size := by omega
  have hhd : s.data.toList.headD 0 = s[0] := by
    have e : s.data.toList = s[0] :: s.data.toList.tail := by
      have := List.cons_head_tail (l := s.data.toList) (by intro e; rw [e] at hlen; simp at hlen; omega)
      rw [← this]
      simp [List.head_eq_getElem]; rfl
    rw [e]; rfl
  have hat : atOf s.data.toList = if s[0].toNat = 45 then 1 else 0 := by unfold atOf; rw [hhd]
  have hget : ∀ k (h : k < s.size), s.data.toList.getD k 0 = s[k] := by
    intro k h
    rw [List.getD_eq_getElem?_getD, List.getElem?_eq_getElem (by omega)]; rfl
  have HG := hid hget
  have HL := hid hlen
  clear hhd hget hlen
  by_cases h45 : s[0].toNat = 45
  · exact read_neg s hs w h1 h2 h0 hat HG HL h45
  · exact read_pos s hs w h1 h2 h0 hat HG HL h45
end Go.Proofs.YtfnibkepkomcdaaDoor.NumR
