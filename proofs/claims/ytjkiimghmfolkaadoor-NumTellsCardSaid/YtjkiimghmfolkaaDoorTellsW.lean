/- Walk over the statement NumTells. -/
import Derived.Test.YtjkiimghmfolkaaDoorNumL
namespace Go.Proofs.YtjkiimghmfolkaaDoor.TellsW
open Go.RowKit Go.Lib NumP NumQ NumR NumL

theorem i64_of {n : Int} (h : (Lit.int .i64 n).wf = true) : I64 n := by
  have : -9223372036854775808 ≤ n ∧ n ≤ 9223372036854775807 := by simpa [Lit.wf, IntKind.min, IntKind.max, IntKind.signed, IntKind.bits] using h
  exact this

set_option maxHeartbeats 400000 in
theorem walk (s : ByteArray) (w0 : s.size ≤ maxLen) (n : Int) (w1 : (Lit.int .i64 n).wf = true) (w : World) (ht : Tab w) :
    Calls Tryd.prog 4 #[.string s, .int .i64 n] w fun e w' => e = .returned (.bool true) ∧ Below w.heap.size w w' := by
  have hs : s.size ≤ 9223372036854775807 := by unfold maxLen at w0; omega
  have hn := i64_of w1
  clear w0 w1
  by_cases hbig : 1000 < s.size
  · go_enter Tryd.func4, Tryd.ntmps4
    go_wp2
    go_ret
    exact ⟨rfl, Below.refl _ _⟩
  · have HA := hid (NumF.read_calls s hs)
    have HB := hid (NumR.read_calls s hs)
    have HC := hid (write_calls n hn)
    have HD := hid (NumW.write_calls n hn)
    have HT := hid ht
    unfold RdPost at HA HB
    generalize rd s.data.toList = r at *
    obtain ⟨x, y⟩ := r
    have e1 : (x == x) = true := by simp
    have e2 : (y == y) = true := by simp
    generalize itoa n = t at *
    have e3 : (t == t) = true := by simp
    clear ht hn
    go_enter Tryd.func4, Tryd.ntmps4
    go_wp2_with fail
    refine (HA.out w).mono ?_
    rintro e u1 ⟨rfl, b1⟩
    go_wp2_with fail
    refine (HB.out u1).mono ?_
    rintro e u2 ⟨rfl, b2⟩
    have b12 := b1.trans (b2.mono b1.size)
    go_wp2_with fail
    refine (HC.out u2 (HT.out.on b12)).mono ?_
    rintro e u3 ⟨rfl, b3⟩
    have b13 := b12.trans (b3.mono b12.size)
    go_wp2_with fail
    refine (HD.out u3).mono ?_
    rintro e u4 ⟨rfl, b4⟩
    have b14 := b13.trans (b4.mono b13.size)
    clear b1 b2 b3 b4 b12 b13
    go_wp2
    go_ret
    exact ⟨rfl, b14⟩
end Go.Proofs.YtjkiimghmfolkaaDoor.TellsW
