/- Walk over the statement NumOrder. -/
import Derived.Test.YtjkiimghmfolkaaDoorBackW
import Derived.Test.YtjkiimghmfolkaaDoorNumO
namespace Go.Proofs.YtjkiimghmfolkaaDoor.OrderW
open Go.RowKit Go.Lib NumP NumQ NumR NumL BackW NumO

theorem beq_itoa (a b : Int) : (itoa a == itoa b) = (a == b) := by
  by_cases h : a = b
  · rw [h]; simp
  · have h2 : ¬ itoa a = itoa b := fun e => h (itoa_inj e)
    rw [beq_eq_false_iff_ne.2 h, beq_eq_false_iff_ne.2 h2]

/-- what the order of the texts is, where the one number is below the other -/
theorem less_yes {a b : Int} (ha : 0 ≤ a) (hb : 0 ≤ b) (h : a < b) : (itoa a).length < (itoa b).length ∨ ((itoa a).length = (itoa b).length ∧ Op.bytesLess (itoa a) (itoa b) = true) := by
  have := dec_order a.toNat b.toNat
  rw [← itoa_nn ha, ← itoa_nn hb] at this
  simp only [show a.toNat < b.toNat by omega, decide_true, Bool.or_eq_true, decide_eq_true_eq, Bool.and_eq_true] at this
  exact this
theorem less_no {a b : Int} (ha : 0 ≤ a) (hb : 0 ≤ b) (h : ¬ a < b) : ¬ (itoa a).length < (itoa b).length ∧ ((itoa a).length = (itoa b).length → Op.bytesLess (itoa a) (itoa b) = false) := by
  have := dec_order a.toNat b.toNat
  rw [← itoa_nn ha, ← itoa_nn hb] at this
  simp only [show ¬ a.toNat < b.toNat by omega, decide_false, Bool.or_eq_false_iff, decide_eq_false_iff_not, Bool.and_eq_false_iff] at this
  exact ⟨this.1, fun e => this.2.resolve_left (fun h => h e)⟩

set_option maxHeartbeats 1000000 in
theorem walk_neg (a b : Int) (ha : I64 a) (hb : I64 b) (hneg : a < 0) (hmin : -9223372036854775808 < a) (w : World) (ht : Tab w) :
    Calls Tryd.prog 6 #[.int .i64 a, .int .i64 b] w fun e w' => e = .returned (.bool true) ∧ Below w.heap.size w w' := by
  have HL := hid alive_calls
  have HT := hid ht
  clear ht
  have HA := hid (write_calls a ha)
  have HB := hid (write_calls b hb)
  have hae := beq_itoa a b
  have ha2 := ha.2
  have hm : I64 (-a) := ⟨by omega, by omega⟩
  have HM := hid (write_calls (-a) hm)
  have hia : itoa a = 45 :: itoa (-a) := by
    rw [itoa_ng hneg, itoa_nn (by omega), show (-a).toNat = a.natAbs by omega]
  have hl := (itoa_length (-a) hm).2
  generalize itoa b = tb at *
  generalize itoa (-a) = tm at *
  rw [hia] at HA hae
  have hadd : ∀ wx, (Op.stringOp .add ⟨#[45]⟩ ⟨tm.toArray⟩).run Tryd.prog wx = .ok (.string ⟨(45 :: tm).toArray⟩) wx := fun wx => run_string_add_lists wx [45] tm (by simp) (by omega)
  have e1 : (45 :: tm == 45 :: tm) = true := by simp
  clear hia hm ha hb
  by_cases hab : a = b
  · have hab2 : (a == b) = true := by simpa using hab
    rw [hab2] at hae
    clear hab
    go_enter Tryd.func6, Tryd.ntmps6
    go_wp2_with fail
    refine (HL.out w HT.out).mono ?_
    rintro e u1 ⟨rfl, b1⟩
    go_wp2_with fail
    refine (HA.out u1 (HT.out.on b1)).mono ?_
    rintro e u2 ⟨rfl, c2⟩
    have b2 := b1.trans (c2.mono b1.size)
    clear c2
    go_wp2_with fail
    refine (HB.out u2 (HT.out.on b2)).mono ?_
    rintro e u3 ⟨rfl, c3⟩
    have b3 := b2.trans (c3.mono b2.size)
    clear c3
    go_wp2_with fail
    refine (HM.out u3 (HT.out.on b3)).mono ?_
    rintro e u4 ⟨rfl, c4⟩
    have b4 := b3.trans (c4.mono b3.size)
    clear c4
    go_wp2
    go_ret
    exact ⟨rfl, b4⟩
  · have hab2 : (a == b) = false := by simpa using hab
    rw [hab2] at hae
    clear hab
    go_enter Tryd.func6, Tryd.ntmps6
    go_wp2_with fail
    refine (HL.out w HT.out).mono ?_
    rintro e u1 ⟨rfl, b1⟩
    go_wp2_with fail
    refine (HA.out u1 (HT.out.on b1)).mono ?_
    rintro e u2 ⟨rfl, c2⟩
    have b2 := b1.trans (c2.mono b1.size)
    clear c2
    go_wp2_with fail
    refine (HB.out u2 (HT.out.on b2)).mono ?_
    rintro e u3 ⟨rfl, c3⟩
    have b3 := b2.trans (c3.mono b2.size)
    clear c3
    go_wp2_with fail
    refine (HM.out u3 (HT.out.on b3)).mono ?_
    rintro e u4 ⟨rfl, c4⟩
    have b4 := b3.trans (c4.mono b3.size)
    clear c4
    go_wp2
    go_ret
    exact ⟨rfl, b4⟩

set_option maxHeartbeats 1000000 in
theorem walk_min (a b : Int) (ha : I64 a) (hb : I64 b) (hneg : a < 0) (hmin : ¬ -9223372036854775808 < a) (w : World) (ht : Tab w) :
    Calls Tryd.prog 6 #[.int .i64 a, .int .i64 b] w fun e w' => e = .returned (.bool true) ∧ Below w.heap.size w w' := by
  have HL := hid alive_calls
  have HT := hid ht
  clear ht
  have HA := hid (write_calls a ha)
  have HB := hid (write_calls b hb)
  have hae := beq_itoa a b
  generalize itoa b = tb at *
  generalize itoa a = ta at *
  clear ha hb
  by_cases hab : a = b
  · have hab2 : (a == b) = true := by simpa using hab
    rw [hab2] at hae
    clear hab
    go_enter Tryd.func6, Tryd.ntmps6
    go_wp2_with fail
    refine (HL.out w HT.out).mono ?_
    rintro e u1 ⟨rfl, b1⟩
    go_wp2_with fail
    refine (HA.out u1 (HT.out.on b1)).mono ?_
    rintro e u2 ⟨rfl, c2⟩
    have b2 := b1.trans (c2.mono b1.size)
    clear c2
    go_wp2_with fail
    refine (HB.out u2 (HT.out.on b2)).mono ?_
    rintro e u3 ⟨rfl, c3⟩
    have b3 := b2.trans (c3.mono b2.size)
    clear c3
    go_wp2
    go_ret
    exact ⟨rfl, b3⟩
  · have hab2 : (a == b) = false := by simpa using hab
    rw [hab2] at hae
    clear hab
    go_enter Tryd.func6, Tryd.ntmps6
    go_wp2_with fail
    refine (HL.out w HT.out).mono ?_
    rintro e u1 ⟨rfl, b1⟩
    go_wp2_with fail
    refine (HA.out u1 (HT.out.on b1)).mono ?_
    rintro e u2 ⟨rfl, c2⟩
    have b2 := b1.trans (c2.mono b1.size)
    clear c2
    go_wp2_with fail
    refine (HB.out u2 (HT.out.on b2)).mono ?_
    rintro e u3 ⟨rfl, c3⟩
    have b3 := b2.trans (c3.mono b2.size)
    clear c3
    go_wp2
    go_ret
    exact ⟨rfl, b3⟩

set_option maxHeartbeats 1000000 in
theorem walk_pn (a b : Int) (ha : I64 a) (hb : I64 b) (hneg : ¬ a < 0) (hbn : b < 0) (w : World) (ht : Tab w) :
    Calls Tryd.prog 6 #[.int .i64 a, .int .i64 b] w fun e w' => e = .returned (.bool true) ∧ Below w.heap.size w w' := by
  have HL := hid alive_calls
  have HT := hid ht
  clear ht
  have HA := hid (write_calls a ha)
  have HB := hid (write_calls b hb)
  have hae := beq_itoa a b
  have hab2 : (a == b) = false := by simp; omega
  rw [hab2] at hae
  generalize itoa b = tb at *
  generalize itoa a = ta at *
  clear ha hb
  go_enter Tryd.func6, Tryd.ntmps6
  go_wp2_with fail
  refine (HL.out w HT.out).mono ?_
  rintro e u1 ⟨rfl, b1⟩
  go_wp2_with fail
  refine (HA.out u1 (HT.out.on b1)).mono ?_
  rintro e u2 ⟨rfl, c2⟩
  have b2 := b1.trans (c2.mono b1.size)
  clear c2
  go_wp2_with fail
  refine (HB.out u2 (HT.out.on b2)).mono ?_
  rintro e u3 ⟨rfl, c3⟩
  have b3 := b2.trans (c3.mono b2.size)
  clear c3
  go_wp2
  go_ret
  exact ⟨rfl, b3⟩

set_option maxHeartbeats 1000000 in
theorem walk_lt (a b : Int) (ha : I64 a) (hb : I64 b) (hneg : ¬ a < 0) (hbn : ¬ b < 0) (hlt : a < b) (w : World) (ht : Tab w) :
    Calls Tryd.prog 6 #[.int .i64 a, .int .i64 b] w fun e w' => e = .returned (.bool true) ∧ Below w.heap.size w w' := by
  have HL := hid alive_calls
  have HT := hid ht
  clear ht
  have HA := hid (write_calls a ha)
  have HB := hid (write_calls b hb)
  have hae := beq_itoa a b
  have hab2 : (a == b) = false := by simp; omega
  rw [hab2] at hae
  have hy := less_yes (by omega) (by omega) hlt
  generalize itoa b = tb at *
  generalize itoa a = ta at *
  clear ha hb
  rcases hy with h | ⟨h, h2⟩
  · go_enter Tryd.func6, Tryd.ntmps6
    go_wp2_with fail
    refine (HL.out w HT.out).mono ?_
    rintro e u1 ⟨rfl, b1⟩
    go_wp2_with fail
    refine (HA.out u1 (HT.out.on b1)).mono ?_
    rintro e u2 ⟨rfl, c2⟩
    have b2 := b1.trans (c2.mono b1.size)
    clear c2
    go_wp2_with fail
    refine (HB.out u2 (HT.out.on b2)).mono ?_
    rintro e u3 ⟨rfl, c3⟩
    have b3 := b2.trans (c3.mono b2.size)
    clear c3
    go_wp2
    go_ret
    exact ⟨rfl, b3⟩
  · have h3 : ¬ ta.length < tb.length := by omega
    have h4 : ((ta.length : Int) == (tb.length : Int)) = true := by simp; omega
    clear h
    go_enter Tryd.func6, Tryd.ntmps6
    go_wp2_with fail
    refine (HL.out w HT.out).mono ?_
    rintro e u1 ⟨rfl, b1⟩
    go_wp2_with fail
    refine (HA.out u1 (HT.out.on b1)).mono ?_
    rintro e u2 ⟨rfl, c2⟩
    have b2 := b1.trans (c2.mono b1.size)
    clear c2
    go_wp2_with fail
    refine (HB.out u2 (HT.out.on b2)).mono ?_
    rintro e u3 ⟨rfl, c3⟩
    have b3 := b2.trans (c3.mono b2.size)
    clear c3
    go_wp2
    go_ret
    exact ⟨rfl, b3⟩

set_option maxHeartbeats 1000000 in
theorem walk_ge (a b : Int) (ha : I64 a) (hb : I64 b) (hneg : ¬ a < 0) (hbn : ¬ b < 0) (hlt : ¬ a < b) (w : World) (ht : Tab w) :
    Calls Tryd.prog 6 #[.int .i64 a, .int .i64 b] w fun e w' => e = .returned (.bool true) ∧ Below w.heap.size w w' := by
  have HL := hid alive_calls
  have HT := hid ht
  clear ht
  have HA := hid (write_calls a ha)
  have HB := hid (write_calls b hb)
  have hae := beq_itoa a b
  have hy := less_no (by omega) (by omega) hlt
  have hld : decide (a < b) = false := by simp; omega
  clear hlt
  obtain ⟨h, h2⟩ := hy
  have h2' := hid h2
  clear h2
  generalize itoa b = tb at *
  generalize itoa a = ta at *
  clear ha hb
  by_cases hl : ta.length = tb.length
  · have h3 := h2'.out hl
    have h4 : ((ta.length : Int) == (tb.length : Int)) = true := by simp; omega
    clear hl h2'
    by_cases hab : a = b
    · have hab2 : (a == b) = true := by simpa using hab
      rw [hab2] at hae
      clear hab
      go_enter Tryd.func6, Tryd.ntmps6
      go_wp2_with fail
      refine (HL.out w HT.out).mono ?_
      rintro e u1 ⟨rfl, b1⟩
      go_wp2_with fail
      refine (HA.out u1 (HT.out.on b1)).mono ?_
      rintro e u2 ⟨rfl, c2⟩
      have b2 := b1.trans (c2.mono b1.size)
      clear c2
      go_wp2_with fail
      refine (HB.out u2 (HT.out.on b2)).mono ?_
      rintro e u3 ⟨rfl, c3⟩
      have b3 := b2.trans (c3.mono b2.size)
      clear c3
      go_wp2
      go_ret
      exact ⟨rfl, b3⟩
    · have hab2 : (a == b) = false := by simpa using hab
      rw [hab2] at hae
      clear hab
      go_enter Tryd.func6, Tryd.ntmps6
      go_wp2_with fail
      refine (HL.out w HT.out).mono ?_
      rintro e u1 ⟨rfl, b1⟩
      go_wp2_with fail
      refine (HA.out u1 (HT.out.on b1)).mono ?_
      rintro e u2 ⟨rfl, c2⟩
      have b2 := b1.trans (c2.mono b1.size)
      clear c2
      go_wp2_with fail
      refine (HB.out u2 (HT.out.on b2)).mono ?_
      rintro e u3 ⟨rfl, c3⟩
      have b3 := b2.trans (c3.mono b2.size)
      clear c3
      go_wp2
      go_ret
      exact ⟨rfl, b3⟩
  · have h4 : ((ta.length : Int) == (tb.length : Int)) = false := by simp; omega
    clear hl h2'
    by_cases hab : a = b
    · have hab2 : (a == b) = true := by simpa using hab
      rw [hab2] at hae
      clear hab
      go_enter Tryd.func6, Tryd.ntmps6
      go_wp2_with fail
      refine (HL.out w HT.out).mono ?_
      rintro e u1 ⟨rfl, b1⟩
      go_wp2_with fail
      refine (HA.out u1 (HT.out.on b1)).mono ?_
      rintro e u2 ⟨rfl, c2⟩
      have b2 := b1.trans (c2.mono b1.size)
      clear c2
      go_wp2_with fail
      refine (HB.out u2 (HT.out.on b2)).mono ?_
      rintro e u3 ⟨rfl, c3⟩
      have b3 := b2.trans (c3.mono b2.size)
      clear c3
      go_wp2
      go_ret
      exact ⟨rfl, b3⟩
    · have hab2 : (a == b) = false := by simpa using hab
      rw [hab2] at hae
      clear hab
      go_enter Tryd.func6, Tryd.ntmps6
      go_wp2_with fail
      refine (HL.out w HT.out).mono ?_
      rintro e u1 ⟨rfl, b1⟩
      go_wp2_with fail
      refine (HA.out u1 (HT.out.on b1)).mono ?_
      rintro e u2 ⟨rfl, c2⟩
      have b2 := b1.trans (c2.mono b1.size)
      clear c2
      go_wp2_with fail
      refine (HB.out u2 (HT.out.on b2)).mono ?_
      rintro e u3 ⟨rfl, c3⟩
      have b3 := b2.trans (c3.mono b2.size)
      clear c3
      go_wp2
      go_ret
      exact ⟨rfl, b3⟩

theorem walk (a : Int) (w0 : (Lit.int .i64 a).wf = true) (b : Int) (w1 : (Lit.int .i64 b).wf = true) (w : World) (ht : Tab w) :
    Calls Tryd.prog 6 #[.int .i64 a, .int .i64 b] w fun e w' => e = .returned (.bool true) ∧ Below w.heap.size w w' := by
  have ha := i64_of w0
  have hb := i64_of w1
  by_cases hneg : a < 0
  · by_cases hmin : -9223372036854775808 < a
    · exact walk_neg a b ha hb hneg hmin w ht
    · exact walk_min a b ha hb hneg hmin w ht
  · by_cases hbn : b < 0
    · exact walk_pn a b ha hb hneg hbn w ht
    · by_cases hlt : a < b
      · exact walk_lt a b ha hb hneg hbn hlt w ht
      · exact walk_ge a b ha hb hneg hbn hlt w ht
end Go.Proofs.YtjkiimghmfolkaaDoor.OrderW
