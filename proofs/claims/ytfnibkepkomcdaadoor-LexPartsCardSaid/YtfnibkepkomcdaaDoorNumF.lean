/- Walk over num.Read: it answers 'rd'. -/
import Derived.Test.YtfnibkepkomcdaaDoorNumE
import Derived.Test.YtfnibkepkomcdaaDoorNumR
namespace Go.Proofs.YtfnibkepkomcdaaDoor.NumF
open Go.RowKit Go.Lib NumP NumQ NumD NumE NumR

theorem begB_dec {u : Nat} {bl : Bool} (h : 1 ≤ u ∨ bl = false) : begB (decDigits u) bl = true := by
  by_cases h0 : u = 0
  · subst h0
    rw [dec_zero]
    rcases h with h | h
    · omega
    · rw [h]; rfl
  · obtain ⟨c, t, e, hc⟩ := dec_head u (by omega)
    rw [e]
    simp [begB, hc]

theorem rd_ill {l : List UInt8} (h : ¬ Well (l.drop (atOf l)) (decide (atOf l = 1))) : rd l = (0, 10) := by
  refine rd_none fun n hn e => h ?_
  subst e
  have h1 := hn.1
  have h2 := hn.2
  rcases at_cases n with ⟨hs, ha, hd⟩ | ⟨hs, ha, hd⟩ <;> rw [hd, ha]
  · exact ⟨begB_dec (.inl (by omega)), dec_digs _, by rw [val_dec]; simp [most]; omega⟩
  · exact ⟨begB_dec (.inr (by decide)), dec_digs _, by rw [val_dec]; simp [most]; omega⟩

theorem begB_lead {l : List UInt8} {bl : Bool} (h : begB l bl = true) : l ≠ [] ∧ ∀ c t, l = c :: t → c.toNat = 48 → t = [] ∧ bl = false := by
  refine ⟨?_, ?_⟩
  · intro e; rw [e] at h; cases h
  · intro c t e hc
    rw [e] at h
    simp [begB, hc] at h
    exact h

theorem well_pos {l : List UInt8} (h : Well l true) : 1 ≤ val l := by
  obtain ⟨h1, h2, _⟩ := h
  obtain ⟨hne, hz⟩ := begB_lead h1
  have hd := dec_val _ _ rfl hne h2 (fun c t e hc => (hz c t e hc).1)
  rcases Nat.eq_zero_or_pos (val l) with h0 | h0
  · rw [h0, dec_zero] at hd
    have := (hz 48 [] hd.symm (by decide)).2
    cases this
  · exact h0
theorem neg_wrap (v : Nat) (h1 : 1 ≤ v) (h2 : v ≤ 9223372036854775808) : wrap64 (IntKind.u64.wrap (-(v : Int))) = -(v : Int) := by
  have e : IntKind.u64.wrap (-(v : Int)) = 18446744073709551616 - (v : Int) := by
    simp [IntKind.wrap, IntKind.signed, IntKind.bits]; omega
  rw [e]; unfold wrap64; omega

/-- the number of a text with which all is well -/
def num (l : List UInt8) : Int := if atOf l = 1 then -(val (l.drop (atOf l)) : Int) else (val (l.drop (atOf l)) : Int)
theorem rd_well {l : List UInt8} (h : Well (l.drop (atOf l)) (decide (atOf l = 1))) : rd l = (num l, 0) := by
  obtain ⟨h1, h2, h3⟩ := h
  obtain ⟨hne, hz⟩ := begB_lead h1
  have hd := dec_val _ _ rfl hne h2 (fun c t e hc => (hz c t e hc).1)
  refine rd_of ?_ ?_
  · unfold num I64
    unfold most at h3
    by_cases ha : atOf l = 1
    · rw [if_pos ha]; simp [ha] at h3 ⊢; omega
    · rw [if_neg ha]; simp [ha] at h3 ⊢; omega
  · by_cases ha : atOf l = 1
    · have hv : 1 ≤ val (l.drop (atOf l)) := by
        rcases Nat.eq_zero_or_pos (val (l.drop (atOf l))) with h0 | h0
        · rw [h0, dec_zero] at hd
          have := (hz 48 [] hd.symm (by decide)).2
          simp [ha] at this
        · exact h0
      have hn : num l = -(val (l.drop (atOf l)) : Int) := by unfold num; rw [if_pos ha]
      rw [hn, itoa_ng (by omega), show (-(val (l.drop (atOf l)) : Int)).natAbs = val (l.drop (atOf l)) by omega, hd, ha]
      unfold atOf at ha
      cases l with
      | nil => simp at ha
      | cons c t =>
        simp at ha
        simp
        exact UInt8.toNat_inj.1 (by rw [ha]; rfl)
    · have ha0 : atOf l = 0 := by have := atOf_le l; omega
      have hn : num l = (val (l.drop (atOf l)) : Int) := by unfold num; rw [if_neg ha]
      rw [hn, itoa_nn (by omega), Int.toNat_natCast, hd, ha0, List.drop_zero]

set_option maxHeartbeats 400000 in
theorem read_calls (s : ByteArray) (hs : s.size ≤ 9223372036854775807) (w : World) :
    Calls Tryd.prog 41 #[.string s] w (RdPost s.data.toList w) := by
  have hl : s.data.toList.length = s.size := Array.length_toList
  have HC := hid (parts_calls s hs)
  have hdl := digs_list s
  have hbe : bel s = decide (atOf s.data.toList = 1) := rfl
  have hrw : Well (digs s).data.toList (bel s) → rd s.data.toList = (num s.data.toList, 0) := fun h => rd_well (hdl ▸ h)
  have hri : ¬ Well (digs s).data.toList (bel s) → rd s.data.toList = (0, 10) := fun h => rd_ill (hdl ▸ h)
  have hnu : num s.data.toList = if bel s = true then -(val (digs s).data.toList : Int) else (val (digs s).data.toList : Int) := by
    unfold num; rw [hdl, hbe]; simp
  have hmo : Well (digs s).data.toList (bel s) → val (digs s).data.toList ≤ most (bel s) ∧ (bel s = true → 1 ≤ val (digs s).data.toList) := by
    intro h
    exact ⟨h.2.2, fun hb => well_pos (hb ▸ h)⟩
  have HW := hid hrw; have HI := hid hri; have HN := hid hnu; have HM := hid hmo
  clear hrw hri hnu hmo hdl hbe hl
  go_enter Tryd.func41, Tryd.ntmps41
  go_wp2_with fail
  refine (HC.out w).mono ?_
  rintro e w1 ⟨h | h, hb⟩
  · obtain ⟨hw, rfl⟩ := h
    obtain ⟨m1, m2⟩ := HM.out hw
    have hre := HW.out hw
    rw [HN.out] at hre
    generalize bel s = bl at *
    generalize val (digs s).data.toList = v at *
    have HR := hid hre
    clear hre hw HN HW HI HM HC
    cases bl
    · have m3 : v ≤ 9223372036854775807 := m1
      have HR2 : Hid (rd s.data.toList = ((v : Int), 0)) := by simpa using HR
      clear HR
      go_wp2
      go_ret2
      exact ⟨by rw [HR2.out]; rfl, hb⟩
    · have m3 : v ≤ 9223372036854775808 := m1
      have m4 := m2 rfl
      have HR2 : Hid (rd s.data.toList = (-(v : Int), 0)) := by simpa using HR
      have HR3 : Hid (rd s.data.toList = (wrap64 (IntKind.u64.wrap (-(v : Int))), 0)) := by
        have e := HR2.out
        rw [neg_wrap v m4 m3]; exact e
      clear HR HR2
      go_wp2
      go_ret2
      exact ⟨by rw [HR3.out]; rfl, hb⟩
  · obtain ⟨hw, rfl⟩ := h
    have HR := hid (HI.out hw)
    clear hw HN HW HI HM HC
    go_wp2
    go_ret2
    exact rdpost_none HR.out hb
end Go.Proofs.YtfnibkepkomcdaaDoor.NumF
