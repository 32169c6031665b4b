/- Walk over lex.Mark. -/
import Derived.Test.YtpkgkeclkbidiaaDoorZLxKToRdV
import Derived.Test.YtpkgkeclkbidiaaDoorZNumEToNumG
namespace Go.Proofs.YtpkgkeclkbidiaaDoor.LxY
open Go.RowKit Go.Lib LxM LxP LxK LxJ NumP NumQ NumR NumG

set_option maxHeartbeats 1000000 in
theorem mark_calls (s : ByteArray) (hs : s.size ≤ 9223372036854775807) (c : UInt8) (w : World) :
    Calls Tryd.prog 76 #[.string s, .int .u8 (c.toNat : Int)] w (MkR s c w) := by
  have h255 := u8_le c
  by_cases h0 : s.size = 0
  · have HE := hid (mkN_nil (c := c) h0)
    have hse : s = ⟨#[]⟩ := by
      apply ByteArray.ext
      exact Array.eq_empty_of_size_eq_zero h0
    subst hse
    go_enter Tryd.func76, Tryd.ntmps76
    go_wp2
    go_ret2
    exact ⟨by rw [HE.out]; rfl, Below.refl _ _⟩
  · have hpos : 0 < s.size := by omega
    have hne : s.toList.isEmpty = false := by
      rw [Lib.toList_data]
      show (un s).isEmpty = false
      rw [un_cons hpos]; rfl
    by_cases hc : s[0] = c
    · have HE := hid (mkN_yes hpos hc)
      have hcc : ((s[0].toNat : Int) != (c.toNat : Int)) = false := by simp [hc]
      have hsx : (s.extract 1 s.size).size ≤ 9223372036854775807 := by rw [ByteArray.size_extract]; omega
      have HC := hid (small_calls (s.extract 1 s.size) hsx 999 w)
      unfold SmPost at HC
      clear hc
      go_enter Tryd.func76, Tryd.ntmps76
      go_wp2_with fail
      refine HC.out.mono ?_
      rintro e w1 ⟨rfl, hb⟩
      clear HC
      generalize NumG.sm (un (s.extract 1 s.size)) 999 = r at *
      go_wp2
      go_ret2
      exact ⟨by rw [HE.out]; rfl, hb⟩
    · have HE := hid (mkN_no hpos hc)
      have hcc : ((s[0].toNat : Int) != (c.toNat : Int)) = true := by
        simp only [bne_iff_ne, ne_eq]
        intro e
        exact hc (UInt8.toNat_inj.1 (by omega))
      clear hc
      go_enter Tryd.func76, Tryd.ntmps76
      go_wp2
      go_ret2
      exact ⟨by rw [HE.out]; rfl, Below.refl _ _⟩
end Go.Proofs.YtpkgkeclkbidiaaDoor.LxY
