/- Walk over fescuelaw05.LexTells. -/
import Derived.Test.YtfnibkepkomcdaaDoorLxLA
import Derived.Test.YtfnibkepkomcdaaDoorLxQ
namespace Go.Proofs.YtfnibkepkomcdaaDoor.LxTW
open Go.RowKit Go.Lib LxM LxP LxK LxJ LxS LxY LxLA

theorem u8_of {n : Int} (h : (Lit.int .u8 n).wf = true) : ∃ c : UInt8, n = (c.toNat : Int) := by
  have h2 : 0 ≤ n ∧ n ≤ 255 := by simpa [Lit.wf, IntKind.min, IntKind.max, IntKind.signed, IntKind.bits] using h
  refine ⟨UInt8.ofNat n.toNat, ?_⟩
  rw [UInt8.toNat_ofNat']
  omega

set_option maxHeartbeats 2000000 in
theorem walk (s : ByteArray) (w0 : s.size ≤ maxLen) (n : Int) (w1 : (Lit.int .u8 n).wf = true) (w : World) (ht : Tab w) :
    Calls Tryd.prog 4 #[.string s, .int .u8 n] w fun e w' => e = .returned (.bool true) ∧ Below w.heap.size w w' := by
  obtain ⟨c, rfl⟩ := u8_of w1
  have hs : s.size ≤ 9223372036854775807 := by unfold maxLen at w0; omega
  clear w0 w1
  by_cases h1 : 2000 < s.size ∧ s.size ≤ 16384
  · have h2 := h1.1; have h3 := h1.2
    clear h1
    go_enter Tryd.func4, Tryd.ntmps4
    go_wp2
    go_ret
    exact ⟨rfl, Below.refl _ _⟩
  by_cases h4 : 17000 < s.size
  · have h5 : ¬ s.size ≤ 16384 := by omega
    clear h1
    go_enter Tryd.func4, Tryd.ntmps4
    go_wp2
    all_goals
      go_ret
      exact ⟨rfl, Below.refl _ _⟩
  have HA := hid ((LxL.lines_calls s w ht).mono fun e w' h => lna h)
  have HB := hid (fun wx => (LxQ.linesR_calls s wx).mono fun e w' h => lna h)
  have HC := hid (mark_calls s hs c)
  have HD := hid (markR_calls s hs c)
  unfold LnA at HA HB
  unfold MkR at HC HD
  generalize mkN s c = r at *
  obtain ⟨x, y⟩ := r
  simp only at HC HD
  generalize lnE (un s) = er at *
  generalize mkL (lnT (un s)) = ls at *
  have e1 : (x == x) = true := by simp
  have e2 : (y == y) = true := by simp
  have e3 : (er == er) = true := by simp
  have HS := hid (fun va vb wx ha hb => same_calls va vb ls ls wx ha hb)
  rw [decide_eq_true (show ls = ls from rfl)] at HS
  clear ht
  rcases (show s.size ≤ 2000 ∨ (¬ s.size ≤ 2000 ∧ ¬ s.size ≤ 16384) by omega) with h | ⟨h, h'⟩
  all_goals
    clear h1
    go_enter Tryd.func4, Tryd.ntmps4
    go_wp2_with fail
    refine HA.out.mono ?_
    rintro e u1 ⟨va, rfl, hla, b1⟩
    go_wp2_with fail
    refine (HB.out u1).mono ?_
    rintro e u2 ⟨vb, rfl, hlb, b2⟩
    have b12 := b1.trans (b2.mono b1.size)
    have HLA := hid (hla.below b2)
    have HLB := hid hlb
    clear hla hlb
    go_wp2_with fail
    refine (HC.out u2).mono ?_
    rintro e u3 ⟨rfl, b3⟩
    have b13 := b12.trans (b3.mono b12.size)
    go_wp2_with fail
    refine (HD.out u3).mono ?_
    rintro e u4 ⟨rfl, b4⟩
    have b14 := b13.trans (b4.mono b13.size)
    have HS2 := hid (HS.out va vb u4 ((HLA.out.below b3).below b4) ((HLB.out.below b3).below b4))
    clear b1 b2 b3 b4 b12 b13
    go_wp2_with fail
    refine HS2.out.mono ?_
    rintro e u5 ⟨rfl, b5⟩
    have b15 := b14.trans (b5.mono b14.size)
    clear b5 b14
    go_wp2
    go_ret
    exact ⟨rfl, b15⟩
end Go.Proofs.YtfnibkepkomcdaaDoor.LxTW
