/- Walks over fescueref01.Write: it answers the decimal text of its number. -/
import Derived.Test.YtfnibkepkomcdaaDoorRows
import Derived.Test.YtfnibkepkomcdaaDoorNumP
import Derived.WalkKit
import Derived.WalkSmall
import Derived.WalkSpells
import Derived.WalkLawsBesides
import Derived.Outline
import Derived.Lib.Hide
namespace Go.Proofs.YtfnibkepkomcdaaDoor.NumW
open Go.RowKit Go.Lib NumP

def WRel (n0 m : Int) (t : List UInt8) : Prop :=
  I64 n0 ∧ I64 m ∧ (0 < m → 0 < n0) ∧ (m < 0 → n0 < 0) ∧ ((m = 0 ∧ t = decDigits n0.natAbs) ∨ (m ≠ 0 ∧ decDigits m.natAbs ++ t = decDigits n0.natAbs))

theorem conv1 (w : World) (x : Int) (h0 : 0 ≤ x) (h1 : x ≤ 255) :
    (convert 26 9 (.slice (some ⟨w.heap.size, 0, none⟩) 1 1)).run Tryd.prog (w.alloc (.cells #[.int .u8 x] 5)) = .ok (.string ⟨#[UInt8.ofNat x.toNat]⟩) (w.alloc (.cells #[.int .u8 x] 5)) := by
  have h := run_convert_bytes_back (P := Tryd.prog) (w.alloc (.cells #[.int .u8 x] 5)) 26 9 5 ⟨w.heap.size, 0, none⟩ 1 [UInt8.ofNat x.toNat] Tryd.underlying26 Tryd.underlying5 Tryd.underlying9 (by
    intro j hj
    have : j = 0 := by simpa using hj
    subst this
    simp only [List.getElem_cons_zero]
    rw [ofNat_toNat (by omega), Int.toNat_of_nonneg h0]
    simp [Addr.add])
  simpa using h

/-- the digit that is put ahead -/
def dch (u : Nat) : UInt8 := UInt8.ofNat (48 + u % 10)
theorem WRel.step {n0 m : Int} {t : List UInt8} (h : WRel n0 m t) (hm : m ≠ 0) : WRel n0 (m.tdiv 10) (dch m.natAbs :: t) ∧ t.length ≤ 18 := by
  obtain ⟨hn0, hi, h1, h2, h3⟩ := h
  have ha := hi.1
  have hb := hi.2
  rcases h3 with ⟨h0, _⟩ | ⟨_, h3⟩
  · exact absurd h0 hm
  have hl := dec_length_pos m.natAbs
  have hl2 := congrArg List.length h3
  have hl3 : (decDigits n0.natAbs).length ≤ 19 := digs_le n0 hn0
  rw [List.length_append] at hl2
  have hna : (m.tdiv 10).natAbs = m.natAbs / 10 := by rw [Int.natAbs_tdiv]; rfl
  have hneg : m < 0 → m.tdiv 10 ≤ 0 ∧ -922337203685477581 ≤ m.tdiv 10 := by
    intro hlt
    obtain ⟨u, rfl⟩ : ∃ u : Nat, m = -(u : Int) := ⟨m.natAbs, by omega⟩
    rw [Int.neg_tdiv, Int.tdiv_eq_ediv_of_nonneg (by omega)]; omega
  have hpos : 0 ≤ m → m.tdiv 10 = m / 10 := fun h => Int.tdiv_eq_ediv_of_nonneg h
  refine ⟨⟨hn0, ⟨?_, ?_⟩, ?_, ?_, ?_⟩, by omega⟩
  · by_cases hlt : m < 0
    · have := hneg hlt; omega
    · rw [hpos (by omega)]; omega
  · by_cases hlt : m < 0
    · have := hneg hlt; omega
    · rw [hpos (by omega)]; omega
  · intro h
    by_cases hlt : m < 0
    · have := hneg hlt; omega
    · exact h1 (by omega)
  · intro h
    by_cases hlt : m < 0
    · exact h2 hlt
    · rw [hpos (by omega)] at h; omega
  · have hdd : decDigits m.natAbs = if m.natAbs < 10 then [dch m.natAbs] else decDigits (m.natAbs / 10) ++ [dch m.natAbs] := by
      by_cases h10 : m.natAbs < 10
      · rw [if_pos h10, dec_small h10, dch, show m.natAbs % 10 = m.natAbs by omega]
      · rw [if_neg h10, dec_big h10, dch]
    rw [← h3, hdd]
    by_cases h10 : m.natAbs < 10
    · refine .inl ⟨by omega, ?_⟩
      rw [if_pos h10]; rfl
    · refine .inr ⟨by omega, ?_⟩
      rw [if_neg h10, hna]; simp

set_option maxHeartbeats 400000 in
theorem write_calls (n : Int) (hn : I64 n) (w : World) :
    Calls Tryd.prog 48 #[.int .i64 n] w fun e w' => e = .returned (.string ⟨(itoa n).toArray⟩) ∧ Below w.heap.size w w' := by
  have h1 := hn.1
  have h2 := hn.2
  by_cases h0 : n = 0
  · subst h0
    go_enter Tryd.func48, Tryd.ntmps48
    go_wp2
    go_ret
    exact ⟨by rw [itoa_nn (by omega)]; simp [dec_zero], Below.refl _ _⟩
  · have h0' : (n == 0) = false := by simpa using h0
    by_cases hneg : n < 0
    all_goals
      go_enter Tryd.func48, Tryd.ntmps48
      go_wp2
      go_loopw [0, 4] (fun a b wr => ∃ (m : Int) (t : List UInt8), a = .int .i64 m ∧ b = .string ⟨t.toArray⟩ ∧ WRel n m t ∧ Below w.heap.size w wr) (fun a _ _ => (intOf a).natAbs)
      case atStart => exact ⟨n, [], rfl, rfl, ⟨hn, hn, by omega, by omega, .inr ⟨h0, by simp⟩⟩, Below.refl _ _⟩
      case round =>
        obtain ⟨m, t, rfl, rfl, hr, hb⟩ := hrel
        have hm := hr.2.1.1
        have hm2 := hr.2.1.2
        by_cases hm0 : m = 0
        · subst hm0
          have ht : t = decDigits n.natAbs := by
            rcases hr.2.2.2.2 with ⟨_, h⟩ | ⟨h, _⟩
            · exact h
            · exact absurd rfl h
          have hl : t.length ≤ 19 := by rw [ht]; exact digs_le n hn
          have ha1 : ∀ wx, (Op.stringOp .add ⟨#[45]⟩ ⟨t.toArray⟩).run Tryd.prog wx = .ok (.string ⟨(45 :: t).toArray⟩) wx := fun wx => run_string_add_lists wx [45] t (by simp) (by omega)
          have ha2 : ∀ wx, (Op.stringOp .add ⟨#[]⟩ ⟨t.toArray⟩).run Tryd.prog wx = .ok (.string ⟨t.toArray⟩) wx := fun wx => run_string_add_lists wx [] t (by simp) (by omega)
          have hi1 : n < 0 → itoa n = 45 :: t := fun h => by rw [itoa_ng h, ht]
          have hi2 : 0 ≤ n → itoa n = t := fun h => by rw [itoa_nn h, ht, natAbs_toNat h]
          have HI1 := hid hi1; have HI2 := hid hi2
          clear hi1 hi2 ht
          go_wp2
          go_ret
          first
            | exact ⟨(show Ending.returned (.string ⟨(45 :: t).toArray⟩) = _ from by rw [HI1.out (by assumption)]), hb⟩
            | exact ⟨(show Ending.returned (.string ⟨t.toArray⟩) = _ from by rw [HI2.out (by omega)]), hb⟩
        · have hst := hr.step hm0
          obtain ⟨hst, htl⟩ := hst
          have hm1 : (m != 0) = true := by simpa using hm0
          have hadd : ∀ wx, (Op.stringOp .add ⟨#[dch m.natAbs]⟩ ⟨t.toArray⟩).run Tryd.prog wx = .ok (.string ⟨(dch m.natAbs :: t).toArray⟩) wx := fun wx => run_string_add_lists wx [dch m.natAbs] t (by simp) (by omega)
          obtain ⟨d, hd⟩ : ∃ d : Nat, d = m.natAbs % 10 := ⟨_, rfl⟩
          have hd9 : d ≤ 9 := by omega
          have hch : dch m.natAbs = UInt8.ofNat (48 + d) := by unfold dch; rw [hd]
          have hch1 : UInt8.ofNat (48 + (d : Int)).toNat = dch m.natAbs := by rw [hch, show (48 + (d : Int)).toNat = 48 + d by omega]
          have hch2 : d = 0 → UInt8.ofNat (48 + -(d : Int)).toNat = dch m.natAbs := by intro h; rw [hch, show (48 + -(d : Int)).toNat = 48 + d by omega]
          have hc := fun wx => conv1 wx (48 + (d : Int)) (by omega) (by omega)
          rw [hch1] at hc
          generalize hdm : dch m.natAbs = dm at *
          have hnm : (m.tdiv 10).natAbs < m.natAbs := by rw [Int.natAbs_tdiv]; show m.natAbs / 10 < _; omega
          by_cases hmn : m < 0
          · have hmod : m.tmod 10 = -(d : Int) := by
              rw [hd]
              obtain ⟨u, rfl⟩ : ∃ u : Nat, m = -(u : Int) := ⟨m.natAbs, by omega⟩
              rw [Int.neg_tmod, Int.tmod_eq_emod_of_nonneg (by omega)]; omega
            clear hd hch hch1
            by_cases hd0 : d = 0
            · have hc2 := fun wx => conv1 wx (48 + -(d : Int)) (by omega) (by omega)
              rw [hch2 hd0] at hc2
              clear hc hch2
              have hd1 : ¬ 0 < (d : Int) := by omega
              clear hd0
              go_wp2
              go_roundw
              case rel => exact ⟨m.tdiv 10, dm :: t, by go_num, rfl, hst, hb.alloc hb.size _⟩
              case measure => simpa [intOf] using hnm
            · have hd1 : 0 < (d : Int) := by omega
              clear hd0 hch2
              go_wp2
              go_roundw
              case rel => exact ⟨m.tdiv 10, dm :: t, by go_num, rfl, hst, hb.alloc hb.size _⟩
              case measure => simpa [intOf] using hnm
          · have hmod : m % 10 = (d : Int) := by omega
            clear hd hch hch1 hch2
            go_wp2
            go_roundw
            case rel => exact ⟨m.tdiv 10, dm :: t, by go_num, rfl, hst, hb.alloc hb.size _⟩
            case measure => simpa [intOf] using hnm
end Go.Proofs.YtfnibkepkomcdaaDoor.NumW
