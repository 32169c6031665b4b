/- Walk over the statement NumNames: the chapter's examples. -/
import Derived.Test.YtjkiimghmfolkaaDoorNumL
import Derived.Test.YtjkiimghmfolkaaDoorNumG
namespace Go.Proofs.YtjkiimghmfolkaaDoor.NamesW
open Go.RowKit Go.Lib NumP NumQ NumR NumL NumG

theorem sm_calls (s : ByteArray) (hs : s.size ≤ 9223372036854775807) (most x y : Int) (h : NumG.sm s.data.toList most = (x, y)) (w : World) :
    Calls Tryd.prog 8 #[.string s, .int .i64 most] w fun e w' => e = .returned (.tuple #[.int .i64 x, .int .i64 y]) ∧ Below w.heap.size w w' := by
  have HC := small_calls s hs most w
  unfold SmPost at HC
  rw [h] at HC
  exact HC
theorem sm_c {l : List UInt8} {most : Int} {r : Int × Int} (h : (if most < 0 ∨ 1000000 < most then ((0, 2) : Int × Int) else if (rdC l).2 = 0 ∧ 0 ≤ (rdC l).1 ∧ (rdC l).1 ≤ most then ((rdC l).1, 0) else (0, 10)) = r) : NumG.sm l most = r := by
  unfold NumG.sm; rw [rd_eq]; exact h

set_option maxRecDepth 100000 in
set_option maxHeartbeats 1600000 in
theorem walk (w : World) (ht : Tab w) :
    Calls Tryd.prog 3 #[] w fun e w' => e = .returned (.bool true) ∧ Below w.heap.size w w' := by
  have S0 := hid (sm_calls ⟨#[49, 50]⟩ (by decide) (12) 12 0 (sm_c (by decide)))
  have S1 := hid (sm_calls ⟨#[49, 50]⟩ (by decide) (11) 0 10 (sm_c (by decide)))
  have S2 := hid (sm_calls ⟨#[49]⟩ (by decide) (-1) 0 2 (sm_c (by decide)))
  have S3 := hid (sm_calls ⟨#[120]⟩ (by decide) (1000001) 0 2 (sm_c (by decide)))
  have S4 := hid (sm_calls ⟨#[49, 48, 48, 48, 48, 48, 48]⟩ (by decide) (1000000) 1000000 0 (sm_c (by decide)))
  have S5 := hid (sm_calls ⟨#[45, 49]⟩ (by decide) (5) 0 10 (sm_c (by decide)))
  have I0 := hid (is_calls ⟨#[45, 57, 50, 50, 51, 51, 55, 50, 48, 51, 54, 56, 53, 52, 55, 55, 53, 56, 48, 56]⟩ (by decide) (-9223372036854775808) (rd_c (by decide)))
  have I1 := hid (is_calls ⟨#[57, 50, 50, 51, 51, 55, 50, 48, 51, 54, 56, 53, 52, 55, 55, 53, 56, 48, 55]⟩ (by decide) (9223372036854775807) (rd_c (by decide)))
  have N0 := hid (none_calls ⟨#[57, 50, 50, 51, 51, 55, 50, 48, 51, 54, 56, 53, 52, 55, 55, 53, 56, 48, 56]⟩ (by decide) (rd_c (by decide)))
  have N1 := hid (none_calls ⟨#[45, 57, 50, 50, 51, 51, 55, 50, 48, 51, 54, 56, 53, 52, 55, 55, 53, 56, 48, 57]⟩ (by decide) (rd_c (by decide)))
  have N2 := hid (none_calls ⟨#[45, 48]⟩ (by decide) (rd_c (by decide)))
  have N3 := hid (none_calls ⟨#[43, 49]⟩ (by decide) (rd_c (by decide)))
  have N4 := hid (none_calls ⟨#[]⟩ (by decide) (rd_c (by decide)))
  have N5 := hid (none_calls ⟨#[45]⟩ (by decide) (rd_c (by decide)))
  have N6 := hid (none_calls ⟨#[57, 57, 57, 57, 57, 57, 57, 57, 57, 57, 57, 57, 57, 57, 57, 57, 57, 57, 57, 57]⟩ (by decide) (rd_c (by decide)))
  have N7 := hid (none_calls ⟨#[49, 32]⟩ (by decide) (rd_c (by decide)))
  have A0 := hid (alive_calls)
  have W0 := hid (write_calls (-9223372036854775808) (by decide))
  rw [itoa_of (l := [45, 57, 50, 50, 51, 51, 55, 50, 48, 51, 54, 56, 53, 52, 55, 55, 53, 56, 48, 56]) (n := -9223372036854775808) (by decide)] at W0
  have HT := hid ht
  clear ht
  have b0 := Below.refl w.heap.size w
  go_enter Tryd.func3, Tryd.ntmps3
  go_wp2_with fail
  refine (S0.out w).mono ?_
  rintro e u1 ⟨rfl, c1⟩
  have b1 := b0.trans (c1.mono b0.size)
  clear c1
  go_wp2_with fail
  refine (S1.out u1).mono ?_
  rintro e u2 ⟨rfl, c2⟩
  have b2 := b1.trans (c2.mono b1.size)
  clear c2
  go_wp2_with fail
  refine (S2.out u2).mono ?_
  rintro e u3 ⟨rfl, c3⟩
  have b3 := b2.trans (c3.mono b2.size)
  clear c3
  go_wp2_with fail
  refine (S3.out u3).mono ?_
  rintro e u4 ⟨rfl, c4⟩
  have b4 := b3.trans (c4.mono b3.size)
  clear c4
  go_wp2_with fail
  refine (S4.out u4).mono ?_
  rintro e u5 ⟨rfl, c5⟩
  have b5 := b4.trans (c5.mono b4.size)
  clear c5
  go_wp2_with fail
  refine (S5.out u5).mono ?_
  rintro e u6 ⟨rfl, c6⟩
  have b6 := b5.trans (c6.mono b5.size)
  clear c6
  go_wp2_with fail
  refine (A0.out u6 (HT.out.on b6)).mono ?_
  rintro e u7 ⟨rfl, c7⟩
  have b7 := b6.trans (c7.mono b6.size)
  clear c7
  go_wp2_with fail
  refine (I0.out u7).mono ?_
  rintro e u8 ⟨rfl, c8⟩
  have b8 := b7.trans (c8.mono b7.size)
  clear c8
  go_wp2_with fail
  refine (I1.out u8).mono ?_
  rintro e u9 ⟨rfl, c9⟩
  have b9 := b8.trans (c9.mono b8.size)
  clear c9
  go_wp2_with fail
  refine (N0.out u9).mono ?_
  rintro e u10 ⟨rfl, c10⟩
  have b10 := b9.trans (c10.mono b9.size)
  clear c10
  go_wp2_with fail
  refine (N1.out u10).mono ?_
  rintro e u11 ⟨rfl, c11⟩
  have b11 := b10.trans (c11.mono b10.size)
  clear c11
  go_wp2_with fail
  refine (N2.out u11).mono ?_
  rintro e u12 ⟨rfl, c12⟩
  have b12 := b11.trans (c12.mono b11.size)
  clear c12
  go_wp2_with fail
  refine (N3.out u12).mono ?_
  rintro e u13 ⟨rfl, c13⟩
  have b13 := b12.trans (c13.mono b12.size)
  clear c13
  go_wp2_with fail
  refine (N4.out u13).mono ?_
  rintro e u14 ⟨rfl, c14⟩
  have b14 := b13.trans (c14.mono b13.size)
  clear c14
  go_wp2_with fail
  refine (N5.out u14).mono ?_
  rintro e u15 ⟨rfl, c15⟩
  have b15 := b14.trans (c15.mono b14.size)
  clear c15
  go_wp2_with fail
  refine (N6.out u15).mono ?_
  rintro e u16 ⟨rfl, c16⟩
  have b16 := b15.trans (c16.mono b15.size)
  clear c16
  go_wp2_with fail
  refine (N7.out u16).mono ?_
  rintro e u17 ⟨rfl, c17⟩
  have b17 := b16.trans (c17.mono b16.size)
  clear c17
  go_wp2_with fail
  refine (W0.out u17 (HT.out.on b17)).mono ?_
  rintro e u18 ⟨rfl, c18⟩
  have b18 := b17.trans (c18.mono b17.size)
  clear c18
  go_wp2
  go_ret
  exact ⟨rfl, b18⟩
end Go.Proofs.YtjkiimghmfolkaaDoor.NamesW
