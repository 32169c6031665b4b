/- Walk over the statement NumBack. -/
import Derived.Test.YtjkiimghmfolkaaDoorNumL
namespace Go.Proofs.YtjkiimghmfolkaaDoor.BackW
open Go.RowKit Go.Lib NumP NumQ NumR NumL

theorem i64_of {n : Int} (h : (Lit.int .i64 n).wf = true) : I64 n := by
  have : -9223372036854775808 ≤ n ∧ n ≤ 9223372036854775807 := by simpa [Lit.wf, IntKind.min, IntKind.max, IntKind.signed, IntKind.bits] using h
  exact this
/-- a number's text is read as that number -/
theorem is_itoa (n : Int) (h : I64 n) (w : World) :
    Calls Tryd.prog 10 #[.string ⟨(itoa n).toArray⟩, .int .i64 n] w fun e w' => e = .returned (.bool true) ∧ Below w.heap.size w w' := by
  refine is_calls _ ?_ n ?_ w
  · have := (itoa_length n h).2
    show (itoa n).toArray.size ≤ _
    rw [List.size_toArray]; omega
  · show rd (itoa n).toArray.toList = _
    rw [List.toList_toArray]; exact rd_itoa h

set_option maxHeartbeats 400000 in
theorem walk (n : Int) (w0 : (Lit.int .i64 n).wf = true) (s : ByteArray) (w1 : s.size ≤ maxLen) (w : World) (ht : Tab w) :
    Calls Tryd.prog 5 #[.int .i64 n, .string s] w fun e w' => e = .returned (.bool true) ∧ Below w.heap.size w w' := by
  have hs : s.size ≤ 9223372036854775807 := by unfold maxLen at w1; omega
  have hn := i64_of w0
  clear w0 w1
  have HL := hid alive_calls
  have HT := hid ht
  clear ht
  by_cases hbig : 1000 < s.size
  · go_enter Tryd.func5, Tryd.ntmps5
    go_wp2_with fail
    refine (HL.out w HT.out).mono ?_
    rintro e u1 ⟨rfl, b1⟩
    go_wp2
    go_ret
    exact ⟨rfl, b1⟩
  · have HA := hid (NumF.read_calls s hs)
    have HC := hid (write_calls n hn)
    have HI := hid (is_itoa n hn)
    have hc := rd_cases s.data.toList
    unfold RdPost at HA
    clear hn
    rcases hc with ⟨m, hm, hi, he⟩ | ⟨_, he⟩
    · rw [he] at HA
      simp only at HA
      have HW := hid (write_calls m hm)
      rw [hi] at HW
      have hq : (s.data.toList == s.toList) = true := by rw [ByteArray.toList_eq]; simp
      clear he hi hm
      generalize itoa n = t at *
      go_enter Tryd.func5, Tryd.ntmps5
      go_wp2_with fail
      refine (HL.out w HT.out).mono ?_
      rintro e u1 ⟨rfl, b1⟩
      go_wp2_with fail
      refine (HA.out u1).mono ?_
      rintro e u2 ⟨rfl, c2⟩
      have b2 := b1.trans (c2.mono b1.size)
      clear c2
      go_wp2_with fail
      refine (HC.out u2 (HT.out.on b2)).mono ?_
      rintro e u3 ⟨rfl, c3⟩
      have b3 := b2.trans (c3.mono b2.size)
      clear c3
      go_wp2_with fail
      refine (HI.out u3).mono ?_
      rintro e u4 ⟨rfl, c4⟩
      have b4 := b3.trans (c4.mono b3.size)
      clear c4
      go_wp2_with fail
      refine (HW.out u4 (HT.out.on b4)).mono ?_
      rintro e u5 ⟨rfl, c5⟩
      have b5 := b4.trans (c5.mono b4.size)
      clear c5
      go_wp2
      go_ret
      exact ⟨rfl, b5⟩
    · rw [he] at HA
      simp only at HA
      clear he
      generalize itoa n = t at *
      go_enter Tryd.func5, Tryd.ntmps5
      go_wp2_with fail
      refine (HL.out w HT.out).mono ?_
      rintro e u1 ⟨rfl, b1⟩
      go_wp2_with fail
      refine (HA.out u1).mono ?_
      rintro e u2 ⟨rfl, c2⟩
      have b2 := b1.trans (c2.mono b1.size)
      clear c2
      go_wp2_with fail
      refine (HC.out u2 (HT.out.on b2)).mono ?_
      rintro e u3 ⟨rfl, c3⟩
      have b3 := b2.trans (c3.mono b2.size)
      clear c3
      go_wp2_with fail
      refine (HI.out u3).mono ?_
      rintro e u4 ⟨rfl, c4⟩
      have b4 := b3.trans (c4.mono b3.size)
      clear c4
      go_wp2
      go_ret
      exact ⟨rfl, b4⟩
end Go.Proofs.YtjkiimghmfolkaaDoor.BackW
