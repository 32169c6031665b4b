/- Walk over fescueref01.Small: it answers 'sm'. -/
import Derived.Test.YtfnibkepkomcdaaDoorNumG
namespace Go.Proofs.YtfnibkepkomcdaaDoor.NumH
open Go.RowKit Go.Lib NumP NumQ NumR NumG

set_option maxHeartbeats 400000 in
theorem ref_small_calls (s : ByteArray) (hs : s.size ≤ 9223372036854775807) (most : Int) (w : World) :
    Calls Tryd.prog 28 #[.string s, .int .i64 most] w (SmPost s.data.toList most w) := by
  by_cases hneg : most < 0
  · have H := hid (sm_big (l := s.data.toList) (.inl hneg))
    go_enter Tryd.func28, Tryd.ntmps28
    go_wp2
    go_ret2
    exact ⟨by rw [H.out]; rfl, Below.refl _ _⟩
  by_cases hbig : 1000000 < most
  · have H := hid (sm_big (l := s.data.toList) (.inr hbig))
    go_enter Tryd.func28, Tryd.ntmps28
    go_wp2
    go_ret2
    exact ⟨by rw [H.out]; rfl, Below.refl _ _⟩
  have hn : ¬ (most < 0 ∨ 1000000 < most) := by omega
  have HO := hid (fun h2 => sm_ok (l := s.data.toList) hn h2)
  have HN := hid (fun h2 => sm_no (l := s.data.toList) hn h2)
  clear hn
  have herr := rd_err s.data.toList
  have HC := hid (NumR.read_calls s hs w)
  unfold RdPost at HC
  generalize rd s.data.toList = r at *
  obtain ⟨a, b⟩ := r
  simp only at HO HN herr HC
  go_enter Tryd.func28, Tryd.ntmps28
  go_wp2_with fail
  refine HC.out.mono ?_
  rintro e w1 ⟨rfl, hb⟩
  clear HC
  rcases herr with rfl | rfl
  · by_cases h0 : a < 0
    · have H := hid (HN.out (by omega))
      clear HO HN
      go_wp2
      go_ret2
      exact ⟨by rw [H.out]; rfl, hb⟩
    by_cases h1 : most < a
    · have H := hid (HN.out (by omega))
      clear HO HN
      go_wp2
      go_ret2
      exact ⟨by rw [H.out]; rfl, hb⟩
    · have H := hid (HO.out (by omega))
      clear HO HN
      go_wp2
      go_ret2
      exact ⟨by rw [H.out]; rfl, hb⟩
  · have H := hid (HN.out (by omega))
    clear HO HN
    go_wp2
    go_ret2
    exact ⟨by rw [H.out]; rfl, hb⟩

end Go.Proofs.YtfnibkepkomcdaaDoor.NumH
