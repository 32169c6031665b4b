/- Walk over the statement NumDigit. -/
import Derived.Test.YtjkiimghmfolkaaDoorBackW
import Derived.Test.YtjkiimghmfolkaaDoorNumW
import Derived.Deep.RegionWith
import Derived.Deep.Cut
import Derived.Deep.CutRange
import Derived.Deep.DeepCutAuto
namespace Go.Proofs.YtjkiimghmfolkaaDoor.DigitW
open Go.RowKit Go.Lib NumP NumQ NumR NumL BackW NumW

/-- a number's text with a digit behind it -/
def txt (n d : Int) : List UInt8 := itoa n ++ [UInt8.ofNat (48 + d).toNat]
theorem txt_yes {n d : Int} (hd : 0 ≤ d) (hd9 : d ≤ 9) (h0 : n ≠ 0) : itoa (if n < 0 then 10 * n - d else 10 * n + d) = txt n d := by
  unfold txt
  by_cases hn : n < 0
  · rw [if_pos hn, itoa_ng (by omega), itoa_ng hn, dec_big (u := (10 * n - d).natAbs) (by omega), show (10 * n - d).natAbs / 10 = n.natAbs by omega, show (10 * n - d).natAbs % 10 = d.toNat by omega,
      show (48 + d).toNat = 48 + d.toNat by omega]
    rfl
  · rw [if_neg hn, itoa_nn (by omega), itoa_nn (by omega), dec_big (u := (10 * n + d).toNat) (by omega), show (10 * n + d).toNat / 10 = n.toNat by omega, show (10 * n + d).toNat % 10 = d.toNat by omega,
      show (48 + d).toNat = 48 + d.toNat by omega]
theorem txt_zero {d : Int} (hd : 0 ≤ d) (hd9 : d ≤ 9) : rd (txt 0 d) = (0, 10) := by
  have : txt 0 d = [48, UInt8.ofNat (48 + d).toNat] := by unfold txt; rw [itoa_nn (by omega)]; simp [dec_zero]
  rw [this, rd_eq]
  obtain ⟨k, rfl⟩ : ∃ k : Nat, d = k := ⟨d.toNat, by omega⟩
  have : k = 0 ∨ k = 1 ∨ k = 2 ∨ k = 3 ∨ k = 4 ∨ k = 5 ∨ k = 6 ∨ k = 7 ∨ k = 8 ∨ k = 9 := by omega
  rcases this with rfl | rfl | rfl | rfl | rfl | rfl | rfl | rfl | rfl | rfl <;> decide

theorem bcell {W w1 : World} (hb : Below W.heap.size W w1) : (∀ b o, b < W.heap.size → w1.cell? ⟨b, o, none⟩ = W.cell? ⟨b, o, none⟩) ∧ (∀ b o, b < W.heap.size → w1.frozen? ⟨b, o, none⟩ = W.frozen? ⟨b, o, none⟩) :=
  ⟨fun b o h => hb.cell (p := ⟨b, o, none⟩) h, fun b o h => hb.frozen (p := ⟨b, o, none⟩) h⟩
/-- a byte of a block as a text, in whatever world -/
theorem conv_at (w : World) (b : Nat) (x : Int) (h0 : 0 ≤ x) (h1 : x ≤ 255) (hc : w.cell? ⟨b, 0, none⟩ = some (.int .u8 x)) :
    (convert 35 9 (.slice (some ⟨b, 0, none⟩) 1 1)).run Tryd.prog w = .ok (.string ⟨#[UInt8.ofNat x.toNat]⟩) w := by
  have h := run_convert_bytes_back (P := Tryd.prog) w 35 9 5 ⟨b, 0, none⟩ 1 [UInt8.ofNat x.toNat] Tryd.underlying35 Tryd.underlying5 Tryd.underlying9 (by
    intro j hj
    have : j = 0 := by simpa using hj
    subst this
    simp only [List.getElem_cons_zero]
    rw [ofNat_toNat (by omega), Int.toNat_of_nonneg h0]
    exact hc)
  simpa using h

set_option maxHeartbeats 1000000 in
theorem walk (n : Int) (w0 : (Lit.int .i64 n).wf = true) (d : Int) (w1 : (Lit.int .u8 d).wf = true) (w : World) (ht : Tab w) :
    Calls Tryd.prog 7 #[.int .i64 n, .int .u8 d] w fun e w' => e = .returned (.bool true) ∧ Below w.heap.size w w' := by
  have hn := i64_of w0
  have hd : 0 ≤ d ∧ d ≤ 255 := by simpa [Lit.wf, IntKind.min, IntKind.max, IntKind.signed, IntKind.bits] using w1
  obtain ⟨hd0, hd255⟩ := hd
  clear w0 w1
  have HL := hid alive_calls
  have HT := hid ht
  clear ht
  by_cases hd9 : 9 < d
  · go_enter Tryd.func7, Tryd.ntmps7
    go_wp2_with fail
    refine (HL.out w HT.out).mono ?_
    rintro e u1 ⟨rfl, b1⟩
    go_wp2
    go_ret
    exact ⟨rfl, b1⟩
  by_cases hbig : 922337203685477570 < n
  · go_enter Tryd.func7, Tryd.ntmps7
    go_wp2_with fail
    refine (HL.out w HT.out).mono ?_
    rintro e u1 ⟨rfl, b1⟩
    go_wp2
    go_ret
    exact ⟨rfl, b1⟩
  by_cases hsm : n < -922337203685477570
  · go_enter Tryd.func7, Tryd.ntmps7
    go_wp2_with fail
    refine (HL.out w HT.out).mono ?_
    rintro e u1 ⟨rfl, b1⟩
    go_wp2
    go_ret
    exact ⟨rfl, b1⟩
  have HW := hid (NumL.write_calls n hn)
  have hl := (itoa_length n hn).2
  have hcv := fun wx b h => conv_at wx b (48 + d) (by omega) (by omega) h
  have hadd : ∀ wx, (Op.stringOp .add ⟨(itoa n).toArray⟩ ⟨#[UInt8.ofNat (48 + d).toNat]⟩).run Tryd.prog wx = .ok (.string ⟨(txt n d).toArray⟩) wx := fun wx => run_string_add_lists wx (itoa n) [UInt8.ofNat (48 + d).toNat] (by omega) (by simp)
  have hwr : IntKind.u8.wrap (48 + d) = 48 + d := IntWalk.u8_in _ (by omega)
  go_enter Tryd.func7, Tryd.ntmps7
  go_wp2_with fail
  refine (HL.out w HT.out).mono ?_
  rintro e u1 ⟨rfl, b1⟩
  go_upto_region 4 with fail
  go_cut [6] (fun s wc => s = .string ⟨(txt n d).toArray⟩ ∧ Below w.heap.size w wc)
  case first =>
    go_region_with (go_at_call 12; refine (HW.out _ (HT.out.on (by repeat (first | exact b1 | exact b1.size | refine Below.drew ?_ | refine Below.alloc ?_ ?_ _)))).mono ?_; rintro e u2 ⟨rfl, b2⟩; obtain ⟨hcx, hfx⟩ := bcell b2)
    all_goals
      go_wp2_with fail
      go_meet
      case rel =>
        refine ⟨rfl, ?_⟩
        first
          | exact (b1.drew.trans (b2.mono b1.size)).alloc (Nat.le_trans b1.size b2.size) _
          | exact ((b1.alloc b1.size _).drew).trans (b2.mono (Nat.le_trans b1.size (by simp)))
          | exact (((b1.alloc b1.size _).drew).drew).trans (b2.mono (Nat.le_trans b1.size (by simp)))
  case rest =>
    obtain ⟨rfl, hbc⟩ := hcut
    clear hadd hcv hwr HW
    have hlt : (txt n d).length ≤ 21 := by unfold txt; simp; omega
    have hsz : (⟨(txt n d).toArray⟩ : ByteArray).size ≤ 9223372036854775807 := by
      show (txt n d).toArray.size ≤ _
      rw [List.size_toArray]; omega
    by_cases h0 : n = 0
    · subst h0
      have HN := hid (none_calls ⟨(txt 0 d).toArray⟩ hsz (by show rd (txt 0 d).toArray.toList = _; rw [List.toList_toArray]; exact txt_zero hd0 (by omega)))
      generalize txt 0 d = t at *
      go_wp2_with fail
      refine (HN.out wc).mono ?_
      rintro e u3 ⟨rfl, b3⟩
      have b4 := hbc.trans (b3.mono hbc.size)
      clear b3
      go_wp2
      go_ret
      exact ⟨rfl, b4⟩
    · have h0' : (n == 0) = false := by simpa using h0
      have hty := txt_yes (n := n) hd0 (by omega) h0
      have hi : I64 (if n < 0 then 10 * n - d else 10 * n + d) := by
        split
        · exact ⟨by omega, by omega⟩
        · exact ⟨by omega, by omega⟩
      have hrd : rd (txt n d) = ((if n < 0 then 10 * n - d else 10 * n + d), 0) := rd_of hi hty
      by_cases hneg : n < 0
      · rw [if_pos hneg] at hrd
        have HI := hid (is_calls ⟨(txt n d).toArray⟩ hsz (10 * n - d) (by show rd (txt n d).toArray.toList = _; rw [List.toList_toArray]; exact hrd))
        clear hty hrd hi
        generalize txt n d = t at *
        go_wp2_with fail
        refine (HI.out wc).mono ?_
        rintro e u3 ⟨rfl, b3⟩
        have b4 := hbc.trans (b3.mono hbc.size)
        clear b3
        go_wp2
        go_ret
        exact ⟨rfl, b4⟩
      · rw [if_neg hneg] at hrd
        have HI := hid (is_calls ⟨(txt n d).toArray⟩ hsz (10 * n + d) (by show rd (txt n d).toArray.toList = _; rw [List.toList_toArray]; exact hrd))
        clear hty hrd hi
        generalize txt n d = t at *
        go_wp2_with fail
        refine (HI.out wc).mono ?_
        rintro e u3 ⟨rfl, b3⟩
        have b4 := hbc.trans (b3.mono hbc.size)
        clear b3
        go_wp2
        go_ret
        exact ⟨rfl, b4⟩
end Go.Proofs.YtjkiimghmfolkaaDoor.DigitW
