/- What may be, by the tables, is what may be by the document's words. -/
import Derived.Test.YtaegidmodenomaaDoorShM
namespace Go.Proofs.YtaegidmodenomaaDoor.ShN
open TyM ShM

theorem lowB_append {m : Int} {l r : List Int} : lowB m (l ++ r) = (lowB m l && lowB m r) := by
  unfold lowB; rw [List.all_append]
theorem lowB_one {m a : Int} : lowB m [a] = decide (0 ≤ a ∧ a < m) := by
  simp [lowB]
theorem lowB_cons {m a : Int} {l : List Int} : lowB m (a :: l) = (decide (0 ≤ a ∧ a < m) && lowB m l) := by
  unfold lowB; rw [List.all_cons]
theorem lowB_none {m : Int} : lowB m [] = true := rfl
theorem t0 {nt nr nf nb n : Int} : toldV (limL nt nr nf nb) 0 n = 0 ↔ n = 0 := by
  unfold toldV toldB limL
  have e : (decide ((0 : Int) = 1) || (decide (0 ≤ n) && decide (n < List.getD [1, 0, nt, nr, nf, nb, 8] (Int.toNat 0) 0))) = decide (n = 0) := by
    rw [Bool.eq_iff_iff]; simp; omega
  rw [e]; by_cases h : n = 0 <;> simp [h]
theorem t1 {nt nr nf nb n : Int} : toldV (limL nt nr nf nb) 1 n = 1 := by
  unfold toldV toldB; simp
theorem tv {nt nr nf nb n w m : Int} (hw : w ≠ 1) (h7 : w ≠ 7) (hm : (limL nt nr nf nb).getD w.toNat 0 = m) : toldV (limL nt nr nf nb) w n = w ↔ 0 ≤ n ∧ n < m := by
  unfold toldV toldB
  rw [hm]
  by_cases h : 0 ≤ n ∧ n < m
  · simp [h]
  · have : (decide (w = 1) || (decide (0 ≤ n) && decide (n < m))) = false := by
      rw [Bool.eq_false_iff]; simp [hw]; omega
    rw [this]; simp [h]; omega
theorem t2 {nt nr nf nb n : Int} : toldV (limL nt nr nf nb) 2 n = 2 ↔ 0 ≤ n ∧ n < nt := tv (by decide) (by decide) rfl
theorem t3 {nt nr nf nb n : Int} : toldV (limL nt nr nf nb) 3 n = 3 ↔ 0 ≤ n ∧ n < nr := tv (by decide) (by decide) rfl
theorem t4 {nt nr nf nb n : Int} : toldV (limL nt nr nf nb) 4 n = 4 ↔ 0 ≤ n ∧ n < nf := tv (by decide) (by decide) rfl
theorem t5 {nt nr nf nb n : Int} : toldV (limL nt nr nf nb) 5 n = 5 ↔ 0 ≤ n ∧ n < nb := tv (by decide) (by decide) rfl
theorem t6 {nt nr nf nb n : Int} : toldV (limL nt nr nf nb) 6 n = 6 ↔ 0 ≤ n ∧ n < 8 := tv (by decide) (by decide) rfl

theorem mayE_eq {nt nr nf nb : Int} {x : Ex} (h0 : 0 ≤ x.kind) : mayE (limL nt nr nf nb) x = mayER nr nb x := by
  obtain ⟨k, a, to, els⟩ := x
  simp only at h0
  by_cases h : k < 4
  · have : k = 0 ∨ k = 1 ∨ k = 2 ∨ k = 3 := by omega
    rw [Bool.eq_iff_iff]
    rcases this with rfl | rfl | rfl | rfl <;>
      simp [mayE, mayER, thereE, hasEOf, rowsE, hasE0, t0, t3, t5, lowB] <;> omega
  · have hk : k ≠ 1 ∧ k ≠ 2 ∧ k ≠ 3 := by omega
    simp [mayE, mayER, hasEOf_over (show 4 ≤ k by omega), hk]

theorem r0 : hasOf 0 = ⟨0, 0, 0, 0, 0, 0, 0⟩ := rfl
theorem r1 : hasOf 1 = ⟨2, 0, 0, 1, 0, 0, 0⟩ := rfl
theorem r2 : hasOf 2 = ⟨2, 0, 0, 0, 0, 0, 0⟩ := rfl
theorem r3 : hasOf 3 = ⟨2, 0, 0, 4, 0, 0, 0⟩ := rfl
theorem r4 : hasOf 4 = ⟨2, 3, 3, 0, 0, 0, 0⟩ := rfl
theorem r5 : hasOf 5 = ⟨2, 3, 3, 0, 0, 0, 0⟩ := rfl
theorem r6 : hasOf 6 = ⟨2, 3, 3, 0, 0, 0, 0⟩ := rfl
theorem r7 : hasOf 7 = ⟨2, 3, 3, 0, 0, 0, 0⟩ := rfl
theorem r8 : hasOf 8 = ⟨2, 3, 3, 0, 0, 0, 0⟩ := rfl
theorem r9 : hasOf 9 = ⟨2, 3, 3, 0, 0, 0, 0⟩ := rfl
theorem r10 : hasOf 10 = ⟨2, 3, 3, 0, 0, 0, 0⟩ := rfl
theorem r11 : hasOf 11 = ⟨2, 0, 0, 0, 0, 0, 0⟩ := rfl
theorem r12 : hasOf 12 = ⟨2, 0, 0, 0, 0, 0, 0⟩ := rfl
theorem r13 : hasOf 13 = ⟨0, 3, 0, 0, 0, 0, 0⟩ := rfl
theorem r14 : hasOf 14 = ⟨2, 3, 0, 6, 0, 0, 0⟩ := rfl
theorem r15 : hasOf 15 = ⟨2, 3, 3, 0, 0, 0, 0⟩ := rfl
theorem r16 : hasOf 16 = ⟨2, 3, 0, 0, 0, 0, 0⟩ := rfl
theorem r17 : hasOf 17 = ⟨0, 3, 3, 0, 0, 0, 0⟩ := rfl
theorem r18 : hasOf 18 = ⟨2, 0, 0, 4, 0, 4, 0⟩ := rfl
theorem r19 : hasOf 19 = ⟨2, 3, 0, 0, 0, 4, 0⟩ := rfl
theorem r20 : hasOf 20 = ⟨2, 0, 0, 0, 0, 0, 0⟩ := rfl
theorem r21 : hasOf 21 = ⟨0, 3, 0, 0, 0, 0, 0⟩ := rfl
theorem r22 : hasOf 22 = ⟨2, 0, 0, 0, 1, 16, 1⟩ := rfl

theorem mayI_iff {L : List Int} {x : Ix} : mayI L x = true ↔ ¬ hasOf x.op = has0 ∧ thereOf L x = hasOf x.op ∧ (x.frm.length : Int) = (hasOf x.op).per * x.args.length ∧ lowB (L.getD 3 0) x.args = true ∧ lowB (L.getD 5 0) x.frm = true := by
  unfold mayI
  by_cases h1 : hasOf x.op = has0 ∨ thereOf L x ≠ hasOf x.op ∨ (x.frm.length : Int) ≠ (hasOf x.op).per * x.args.length
  · rw [if_pos h1]
    constructor
    · intro h; cases h
    · rintro ⟨a, b, c, _⟩
      rcases h1 with h | h | h
      · exact absurd h a
      · exact absurd b h
      · exact absurd c h
  · rw [if_neg h1, Bool.and_eq_true]
    obtain ⟨a, b⟩ := not_or.1 h1
    obtain ⟨b, c⟩ := not_or.1 b
    exact ⟨fun h => ⟨a, Classical.not_not.1 b, Classical.not_not.1 c, h⟩, fun h => h.2.2.2⟩

set_option maxHeartbeats 4000000 in
theorem mayI_eq {nt nr nf nb : Int} {x : Ix} (h0 : 0 ≤ x.op) : mayI (limL nt nr nf nb) x = mayIR nt nr nf nb x := by
  obtain ⟨op, typ, a, b, n, args, frm⟩ := x
  simp only at h0
  have e3 : (limL nt nr nf nb).getD 3 0 = nr := rfl
  have e5 : (limL nt nr nf nb).getD 5 0 = nb := rfl
  by_cases h : op < 23
  · have : op = 0 ∨ op = 1 ∨ op = 2 ∨ op = 3 ∨ op = 4 ∨ op = 5 ∨ op = 6 ∨ op = 7 ∨ op = 8 ∨ op = 9 ∨ op = 10 ∨ op = 11 ∨ op = 12 ∨ op = 13 ∨ op = 14 ∨ op = 15 ∨ op = 16 ∨ op = 17 ∨ op = 18 ∨ op = 19 ∨ op = 20 ∨ op = 21 ∨ op = 22 := by omega
    rw [Bool.eq_iff_iff, mayI_iff]
    unfold mayIR
    rw [e3, e5]
    clear e3 e5 h h0
    generalize ha : lowB nr args = P
    generalize hf : lowB nb frm = Q
    have hP : args.length = 0 → P = true := by intro h; rw [← ha, List.length_eq_zero_iff.1 h]; rfl
    have hQ : frm.length = 0 → Q = true := by intro h; rw [← hf, List.length_eq_zero_iff.1 h]; rfl
    simp only [thereOf, has_eq, usesOf]
    generalize args.length = la at *
    generalize frm.length = lf at *
    rcases this with rfl | rfl | rfl | rfl | rfl | rfl | rfl | rfl | rfl | rfl | rfl | rfl | rfl | rfl | rfl | rfl | rfl | rfl | rfl | rfl | rfl | rfl | rfl <;>
      simp [r0, r1, r2, r3, r4, r5, r6, r7, r8, r9, r10, r11, r12, r13, r14, r15, r16, r17, r18, r19, r20, r21, r22, has0, t0, t1, t2, t3, t4, t6, hasAB, twoB, argsB, answersB, mayNR, lowB_cons, lowB_none, ha] <;>
      (cases P <;> cases Q <;> simp at hP hQ ⊢ <;> try omega)
  · simp [mayI, mayIR, hasOf_over (show 23 ≤ op by omega)]
    omega
end Go.Proofs.YtaegidmodenomaaDoor.ShN
