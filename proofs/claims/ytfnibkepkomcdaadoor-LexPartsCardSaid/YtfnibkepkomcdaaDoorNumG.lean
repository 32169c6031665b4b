/- Walk over num.Small: it answers 'sm'. -/
import Derived.Test.YtfnibkepkomcdaaDoorNumF
namespace Go.Proofs.YtfnibkepkomcdaaDoor.NumG
open Go.RowKit Go.Lib NumP NumQ NumR

/-- what Small answers -/
def sm (l : List UInt8) (most : Int) : Int × Int :=
  if most < 0 ∨ 1000000 < most then (0, 2)
  else if (rd l).2 = 0 ∧ 0 ≤ (rd l).1 ∧ (rd l).1 ≤ most then ((rd l).1, 0) else (0, 10)
def SmPost (l : List UInt8) (most : Int) (w : World) (e : Ending) (w' : World) : Prop :=
  e = .returned (.tuple #[.int .i64 (sm l most).1, .int .i64 (sm l most).2]) ∧ Below w.heap.size w w'
theorem sm_big {l : List UInt8} {most : Int} (h : most < 0 ∨ 1000000 < most) : sm l most = (0, 2) := by unfold sm; rw [if_pos h]
theorem sm_ok {l : List UInt8} {most : Int} (h : ¬ (most < 0 ∨ 1000000 < most)) (h2 : (rd l).2 = 0 ∧ 0 ≤ (rd l).1 ∧ (rd l).1 ≤ most) : sm l most = ((rd l).1, 0) := by unfold sm; rw [if_neg h, if_pos h2]
theorem sm_no {l : List UInt8} {most : Int} (h : ¬ (most < 0 ∨ 1000000 < most)) (h2 : ¬ ((rd l).2 = 0 ∧ 0 ≤ (rd l).1 ∧ (rd l).1 ≤ most)) : sm l most = (0, 10) := by unfold sm; rw [if_neg h, if_neg h2]

set_option maxHeartbeats 400000 in
theorem small_calls (s : ByteArray) (hs : s.size ≤ 9223372036854775807) (most : Int) (w : World) :
    Calls Tryd.prog 27 #[.string s, .int .i64 most] w (SmPost s.data.toList most w) := by
  by_cases hneg : most < 0
  · have H := hid (sm_big (l := s.data.toList) (.inl hneg))
    go_enter Tryd.func27, Tryd.ntmps27
    go_wp2
    go_ret2
    exact ⟨by rw [H.out]; rfl, Below.refl _ _⟩
  by_cases hbig : 1000000 < most
  · have H := hid (sm_big (l := s.data.toList) (.inr hbig))
    go_enter Tryd.func27, Tryd.ntmps27
    go_wp2
    go_ret2
    exact ⟨by rw [H.out]; rfl, Below.refl _ _⟩
  have hn : ¬ (most < 0 ∨ 1000000 < most) := by omega
  have HO := hid (fun h2 => sm_ok (l := s.data.toList) hn h2)
  have HN := hid (fun h2 => sm_no (l := s.data.toList) hn h2)
  clear hn
  have herr := rd_err s.data.toList
  have HC := hid (NumF.read_calls s hs w)
  unfold RdPost at HC
  generalize rd s.data.toList = r at *
  obtain ⟨a, b⟩ := r
  simp only at HO HN herr HC
  go_enter Tryd.func27, Tryd.ntmps27
  go_wp2_with fail
  refine HC.out.mono ?_
  rintro e w1 ⟨rfl, hb⟩
  clear HC
  rcases herr with rfl | rfl
  · by_cases h0 : a < 0
    · have H := hid (HN.out (by omega))
      clear HO HN
      go_wp2
      go_ret2
      exact ⟨by rw [H.out]; rfl, hb⟩
    by_cases h1 : most < a
    · have H := hid (HN.out (by omega))
      clear HO HN
      go_wp2
      go_ret2
      exact ⟨by rw [H.out]; rfl, hb⟩
    · have H := hid (HO.out (by omega))
      clear HO HN
      go_wp2
      go_ret2
      exact ⟨by rw [H.out]; rfl, hb⟩
  · have H := hid (HN.out (by omega))
    clear HO HN
    go_wp2
    go_ret2
    exact ⟨by rw [H.out]; rfl, hb⟩

end Go.Proofs.YtfnibkepkomcdaaDoor.NumG
