/- Walks over the reference's below, mayN, mayEnd, mayFunc, Check (fescueref06). -/
import Derived.Test.YtkohdofbjoomjaaGreatDoorZShEToShER
import Derived.Test.YtkohdofbjoomjaaGreatDoorZTyBToTyRI
import Derived.LoopTactic
import Derived.Test.YtkohdofbjoomjaaGreatDoorZShBToShV
import Derived.Test.YtkohdofbjoomjaaGreatDoorZTyMToShN
import Derived.BigGuardPart
import Derived.Deep.Cut
import Derived.Deep.DeepCutAuto
import Derived.Test.YtkohdofbjoomjaaGreatDoorZShFToShH
import Derived.Test.YtkohdofbjoomjaaGreatDoorZIntOToAft
import Derived.Test.YtkohdofbjoomjaaGreatDoorZShIToDmI
import Derived.Test.YtkohdofbjoomjaaGreatDoorZTyRB
import Derived.Test.YtkohdofbjoomjaaGreatDoorZRwHToShTB
namespace Go.Proofs.YtkohdofbjoomjaaGreatDoor.ShRA
open Go.RowKit Go.Lib SetP IntO TyM TyP TyB TyC TyD TyRA ShM ShP ShA ShB ShC ShE

set_option maxHeartbeats 400000 in
theorem belowR_calls (m : Int) (v : Value) (l : List Int) (w : World) (hl : IntsAt w v l) :
    Calls Tryz.prog 102 #[v, .int .i64 m] w (BoolR (lowB m l) w) := by
  have HL := hid hl
  obtain ⟨ao, cap, rfl, hlen⟩ := ints_slice hl
  clear hl
  have HBAD := hid (fun k (hk : k < l.length) => all_bad (p := fun n => decide (0 ≤ n ∧ n < m)) hk)
  have HSUC := hid (fun k (hk : k < l.length) => all_succ (p := fun n => decide (0 ≤ n ∧ n < m)) hk)
  have HD : Hid (lowB m l = l.all fun n => decide (0 ≤ n ∧ n < m)) := rfl
  go_enter Tryz.func102, Tryz.ntmps102
  go_wp2
  go_loop [5] (fun i => ∃ k : Nat, k ≤ l.length ∧ i = .int .i64 k ∧ ((l.take k).all fun n => decide (0 ≤ n ∧ n < m)) = true) (fun i => l.length - (intOf i).toNat)
  case atStart => exact ⟨0, by omega, rfl, rfl⟩
  case round =>
    obtain ⟨k, hk, rfl, hall⟩ := hrel
    have HA := hid hall
    clear hall
    by_cases hlt : k < l.length
    · obtain ⟨b, off, rfl, hbs, hc⟩ := TyP.ints_at HL.out k hlt
      have H1 := hid (HBAD.out k hlt)
      have H2 := hid (HSUC.out k hlt HA.out)
      generalize l[k] = n at *
      by_cases h0 : n < 0
      · have HE := hid (H1.out (decide_eq_false (by omega)))
        go_wp2
        go_ret
        exact ⟨by rw [HD.out, HE.out]; rfl, Below.refl _ _⟩
      by_cases h1 : m ≤ n
      · have HE := hid (H1.out (decide_eq_false (by omega)))
        go_wp2
        go_ret
        exact ⟨by rw [HD.out, HE.out]; rfl, Below.refl _ _⟩
      have HE := hid (H2.out (decide_eq_true (by omega)))
      go_wp2
      go_round
      case rel => exact ⟨k + 1, by omega, by go_num, HE.out⟩
      case measure => simp [intOf]; omega
    · obtain rfl : k = l.length := by omega
      go_wp2
      go_ret
      exact ⟨by rw [HD.out]; have := HA.out; rw [List.take_length] at this; rw [this]; rfl, Below.refl _ _⟩
end Go.Proofs.YtkohdofbjoomjaaGreatDoor.ShRA

namespace Go.Proofs.YtkohdofbjoomjaaGreatDoor.ShRB
open Go.RowKit Go.Lib RwO SetP IntO TyM TyP TyB TyC TyRA ShM ShP ShA ShB ShC ShE ShRA

/-- a cell, in every world behind -/
theorem later {W : World} {n : Nat} {a : Addr} {v : Value} (h : W.cell? a = some v) (hn : a.block < n) : ∀ w', Below n W w' → w'.cell? a = some v := fun _ hb => (hb.cell hn).trans h
theorem two_below (w : World) (a b : Obj) : Below w.heap.size w ((w.alloc a).alloc b) := (alloc_below _ _).alloc (by simp) _

set_option maxRecDepth 100000 in
set_option maxHeartbeats 4000000 in
theorem mayN_calls (x : Ix) (vt : Value) (fa : Option Addr) (nf fc : Nat) (va vf : Value) (w : World) (hvt : ∃ a n c, vt = .slice a n c) (hva : ∃ a n c, va = .slice a n c) (hvf : ∃ a n c, vf = .slice a n c) :
    Calls Tryz.prog 104 #[.agg #[vt, .slice fa nf fc], ixV x va vf] w (BoolR (mayNR nf x) w) := by
  obtain ⟨a1, n1, c1, rfl⟩ := hvt
  obtain ⟨a2, n2, c2, rfl⟩ := hva
  obtain ⟨a3, n3, c3, rfl⟩ := hvf
  obtain ⟨op, typ, xa, xb, xn, al, fl⟩ := x
  have hb0 := two_below w (.cells #[.slice a1 n1 c1, .slice fa nf fc] 25) (.cells #[.int .u8 op, .int .i64 typ, .int .i64 xa, .int .i64 xb, .int .i64 xn, .slice a2 n2 c2, .slice a3 n3 c3] 60)
  unfold mayNR
  simp only
  by_cases h1 : op = 1
  · rw [if_pos h1]
    subst h1
    go_enter Tryz.func104, Tryz.ntmps104
    go_wp2
    go_ret
    exact ⟨rfl, hb0⟩
  rw [if_neg h1]
  have e1 : (op == 1) = false := by simpa using h1
  by_cases h3 : op = 3 ∨ op = 18
  · rw [if_pos h3]
    have e3 : (op == 3) = true ∨ ((op == 3) = false ∧ (op == 18) = true) := by simp; omega
    clear h3 h1
    by_cases h4 : 0 ≤ xn
    · by_cases h5 : xn < nf
      · rw [decide_eq_true ⟨h4, h5⟩]
        rcases e3 with e3 | ⟨e3, e4⟩
        · go_enter Tryz.func104, Tryz.ntmps104
          go_wp2
          go_ret
          exact ⟨rfl, hb0⟩
        · go_enter Tryz.func104, Tryz.ntmps104
          go_wp2
          go_ret
          exact ⟨rfl, hb0⟩
      · rw [decide_eq_false (fun h => h5 h.2)]
        rcases e3 with e3 | ⟨e3, e4⟩
        · go_enter Tryz.func104, Tryz.ntmps104
          go_wp2
          go_ret
          exact ⟨rfl, hb0⟩
        · go_enter Tryz.func104, Tryz.ntmps104
          go_wp2
          go_ret
          exact ⟨rfl, hb0⟩
    · rw [decide_eq_false (fun h => h4 h.1)]
      rcases e3 with e3 | ⟨e3, e4⟩
      · go_enter Tryz.func104, Tryz.ntmps104
        go_wp2
        go_ret
        exact ⟨rfl, hb0⟩
      · go_enter Tryz.func104, Tryz.ntmps104
        go_wp2
        go_ret
        exact ⟨rfl, hb0⟩
  rw [if_neg h3]
  have e3 : (op == 3) = false := by simp; omega
  have e18 : (op == 18) = false := by simp; omega
  by_cases h14 : op = 14
  · rw [if_pos h14]
    subst h14
    clear h1 h3
    by_cases h4 : 0 ≤ xn
    · by_cases h5 : xn < 8
      · rw [decide_eq_true ⟨h4, h5⟩]
        go_enter Tryz.func104, Tryz.ntmps104
        go_wp2
        go_ret
        exact ⟨rfl, hb0⟩
      · rw [decide_eq_false (fun h => h5 h.2)]
        go_enter Tryz.func104, Tryz.ntmps104
        go_wp2
        go_ret
        exact ⟨rfl, hb0⟩
    · rw [decide_eq_false (fun h => h4 h.1)]
      go_enter Tryz.func104, Tryz.ntmps104
      go_wp2
      go_ret
      exact ⟨rfl, hb0⟩
  rw [if_neg h14]
  have e14 : (op == 14) = false := by simpa using h14
  clear h1 h3 h14
  have hd : (xn == 0) = decide (xn = 0) := by rw [Bool.eq_iff_iff]; simp
  go_enter Tryz.func104, Tryz.ntmps104
  go_wp2
  go_ret
  exact ⟨by simp, hb0⟩

set_option maxRecDepth 100000 in
set_option maxHeartbeats 4000000 in
theorem mayIns_calls (x : Ix) (ta : Option Addr) (nt tc : Nat) (fa : Option Addr) (nf fc : Nat) (nr nb : Int) (va vf : Value) (w : World) (h0 : 0 ≤ x.op ∧ x.op ≤ 255) (ha : IntsAt w va x.args) (hf : IntsAt w vf x.frm) (hla : x.args.length ≤ 20000) :
    Calls Tryz.prog 88 #[.agg #[.slice ta nt tc, .slice fa nf fc], ixV x va vf, .int .i64 nr, .int .i64 nb] w (BoolR (mayIR nt nr nf nb x) w) := by
  have hb0 := two_below w (.cells #[.slice ta nt tc, .slice fa nf fc] 25) (.cells #[.int .u8 x.op, .int .i64 x.typ, .int .i64 x.a, .int .i64 x.b, .int .i64 x.n, va, vf] 60)
  obtain ⟨W0, hW0⟩ : ∃ W0, W0 = (w.alloc (.cells #[.slice ta nt tc, .slice fa nf fc] 25)).alloc (.cells #[.int .u8 x.op, .int .i64 x.typ, .int .i64 x.a, .int .i64 x.b, .int .i64 x.n, va, vf] 60) := ⟨_, rfl⟩
  obtain ⟨n0, hn0⟩ : ∃ n0, n0 = W0.heap.size := ⟨_, rfl⟩
  have hn2 : n0 = w.heap.size + 2 := by rw [hn0, hW0]; simp only [World.size_alloc]
  have hbW : Below w.heap.size w W0 := by rw [hW0]; exact hb0
  have k1 : W0.heap[w.heap.size]? = some (.cells #[.slice ta nt tc, .slice fa nf fc] 25 (0, 0)) := by rw [hW0]; exact alloc_old (alloc_new _ _) _
  have k2 : W0.heap[w.heap.size + 1]? = some (.cells #[.int .u8 x.op, .int .i64 x.typ, .int .i64 x.a, .int .i64 x.b, .int .i64 x.n, va, vf] 60 (0, 0)) := by
    rw [hW0]
    have := alloc_new (w.alloc (.cells #[.slice ta nt tc, .slice fa nf fc] 25)) (.cells #[.int .u8 x.op, .int .i64 x.typ, .int .i64 x.a, .int .i64 x.b, .int .i64 x.n, va, vf] 60)
    rwa [World.size_alloc] at this
  obtain ⟨c1, _⟩ := ShTB.cells_heap k1
  obtain ⟨c2, _⟩ := ShTB.cells_heap k2
  have p0 := c1 0 (by simp); have p1 := c1 1 (by simp)
  have q0 := c2 0 (by simp); have q1 := c2 1 (by simp); have q2 := c2 2 (by simp); have q3 := c2 3 (by simp); have q4 := c2 4 (by simp); have q5 := c2 5 (by simp); have q6 := c2 6 (by simp)
  simp only [List.getElem_toArray, List.getElem_cons_succ, List.getElem_cons_zero] at p0 p1 q0 q1 q2 q3 q4 q5 q6
  have l0 := later (n := n0) p0 (by show w.heap.size < n0; omega); have l1 := later (n := n0) p1 (by show w.heap.size < n0; omega)
  have m0 := later (n := n0) q0 (by show w.heap.size + 1 < n0; omega); have m1 := later (n := n0) q1 (by show w.heap.size + 1 < n0; omega); have m2 := later (n := n0) q2 (by show w.heap.size + 1 < n0; omega); have m3 := later (n := n0) q3 (by show w.heap.size + 1 < n0; omega); have m4 := later (n := n0) q4 (by show w.heap.size + 1 < n0; omega); have m5 := later (n := n0) q5 (by show w.heap.size + 1 < n0; omega); have m6 := later (n := n0) q6 (by show w.heap.size + 1 < n0; omega)
  have hff : ∃ a n c, vf = .slice a n c := by obtain ⟨a, c, h, _⟩ := ints_slice hf; exact ⟨_, _, _, h⟩
  have haf : ∃ a n c, va = .slice a n c := by obtain ⟨a, c, h, _⟩ := ints_slice ha; exact ⟨_, _, _, h⟩
  have HU := hid (ShV.usesR_calls x va vf W0 h0.1 h0.2 (ha.below hbW) hla hff)
  have HB := hid (fun (wx : World) (v : Value) (hv : IntsAt wx v (usesOf x)) => belowR_calls nr v (usesOf x) wx hv)
  have HN := hid (fun wx => mayN_calls x (.slice ta nt tc) fa nf fc va vf wx ⟨_, _, _, rfl⟩ haf hff)
  have HA := hid (fun wx => hasA_calls x.op h0.1 h0.2 wx)
  have HT := hid (fun wx => two_calls x.op h0.1 h0.2 wx)
  have HG := hid (fun wx => hasArgs_calls x.op h0.1 h0.2 wx)
  have HW := hid (fun wx => answersR_calls x.op h0.1 h0.2 wx)
  have HF := hid (fun wx (hb : Below n0 W0 wx) => belowR_calls nb vf x.frm wx ((hf.below hbW).below (by rw [← hn0]; exact hb)))
  have HD : Hid (mayIR nt nr nf nb x = if x.op < 1 ∨ 22 < x.op ∨ lowB nr (usesOf x) = false ∨ mayNR nf x = false then false
    else if (hasAB x.op = false ∧ x.a ≠ 0) ∨ (twoB x.op = false ∧ x.b ≠ 0) ∨ (argsB x.op = false ∧ 0 < x.args.length) then false
    else if (answersB x.op = true ∧ (x.typ < 0 ∨ (nt : Int) ≤ x.typ)) ∨ (answersB x.op = false ∧ x.typ ≠ 0) then false
    else if x.op = 22 then decide (x.frm.length = x.args.length ∧ 1 ≤ x.frm.length ∧ x.frm.length ≤ 16) && lowB nb x.frm
    else decide (x.frm.length = 0 ∧ x.args.length ≤ 4)) := rfl
  obtain ⟨aa, ac, rfl, _⟩ := ints_slice ha
  obtain ⟨ba, bc, rfl, _⟩ := ints_slice hf
  generalize mayIR nt nr nf nb x = ans at *
  generalize usesOf x = L at *
  generalize lowB nr L = U at *
  generalize mayNR nf x = N at *
  generalize hasAB x.op = A at *
  generalize twoB x.op = T at *
  generalize argsB x.op = G at *
  generalize answersB x.op = AN at *
  generalize lowB nb x.frm = F at *
  obtain ⟨op, typ, xa, xb, xn, al, fl⟩ := x
  simp only at *
  generalize al.length = la at *
  generalize fl.length = lf at *
  have HBW := hid hbW
  have HN0 := hid hn0
  have HN2 := hid hn2
  have h00 := Below.refl n0 W0
  have HK1 := hid k1
  have HW0 := hid hW0
  clear hW0 ha hf hla c1 c2 p0 p1 q0 q1 q2 q3 q4 q5 q6 hbW hn0 hn2 k1 k2 hb0 hff haf
  by_cases o1 : op < 1
  · rw [if_pos (Or.inl o1)] at HD
    go_enter Tryz.func88, Tryz.ntmps88
    go_wp2
    go_ret
    exact ⟨by rw [HD.out]; rfl, by rw [← HW0.out]; exact HBW.out⟩
  by_cases o2 : 22 < op
  · rw [if_pos (Or.inr (Or.inl o2))] at HD
    go_enter Tryz.func88, Tryz.ntmps88
    go_wp2
    go_ret
    exact ⟨by rw [HD.out]; rfl, by rw [← HW0.out]; exact HBW.out⟩
  cases U with
  | false =>
    rw [if_pos (Or.inr (Or.inr (Or.inl rfl)))] at HD
    go_enter Tryz.func88, Tryz.ntmps88
    go_wp2_with fail
    rw [← HW0.out]
    refine HU.out.mono ?_
    rintro e w1 ⟨u, m, rfl, hown, hb1⟩
    have h01 : Below n0 W0 w1 := by rw [HN0.out]; exact hb1
    have HB1 := hid (HB.out w1 u (intsAt_of_owns hown (by have := own_len hown; have := hown.1; rw [intVals_length] at this; omega)))
    obtain ⟨ua, uc, rfl⟩ := own_form hown
    clear hown hb1 HU
    go_wp2_with fail
    refine HB1.out.mono ?_
    rintro e w2 ⟨rfl, hb2⟩
    have h02 := h01.trans (hb2.mono (by have := h01.size; have := HN0.out; omega))
    clear hb2 HB1
    go_wp2
    go_ret
    exact ⟨by rw [HD.out]; rfl, HBW.out.trans (h02.mono (by have := HN2.out; omega))⟩
  | true =>
    cases N with
    | false =>
      rw [if_pos (Or.inr (Or.inr (Or.inr rfl)))] at HD
      go_enter Tryz.func88, Tryz.ntmps88
      go_wp2_with fail
      rw [← HW0.out]
      refine HU.out.mono ?_
      rintro e w1 ⟨u, m, rfl, hown, hb1⟩
      have h01 : Below n0 W0 w1 := by rw [HN0.out]; exact hb1
      have HB1 := hid (HB.out w1 u (intsAt_of_owns hown (by have := own_len hown; have := hown.1; rw [intVals_length] at this; omega)))
      obtain ⟨ua, uc, rfl⟩ := own_form hown
      clear hown hb1 HU
      go_wp2_with fail
      refine HB1.out.mono ?_
      rintro e w2 ⟨rfl, hb2⟩
      have h02 := h01.trans (hb2.mono (by have := h01.size; have := HN0.out; omega))
      clear hb2 HB1
      go_wp2_with fail
      refine (HN.out w2).mono ?_
      rintro e w3 ⟨rfl, hb3⟩
      have h03 := h02.trans (hb3.mono (by have := h02.size; have := HN0.out; omega))
      clear hb3 HN
      go_wp2
      go_ret
      exact ⟨by rw [HD.out]; rfl, HBW.out.trans (h03.mono (by have := HN2.out; omega))⟩
    | true =>
    rw [if_neg (by simp; omega)] at HD
    go_enter Tryz.func88, Tryz.ntmps88
    go_wp2_with fail
    rw [← HW0.out]
    refine HU.out.mono ?_
    rintro e w1 ⟨u, m, rfl, hown, hb1⟩
    have h01 : Below n0 W0 w1 := by rw [HN0.out]; exact hb1
    have HB1 := hid (HB.out w1 u (intsAt_of_owns hown (by have := own_len hown; have := hown.1; rw [intVals_length] at this; omega)))
    obtain ⟨ua, uc, rfl⟩ := own_form hown
    clear hown hb1 HU
    go_wp2_with fail
    refine HB1.out.mono ?_
    rintro e w2 ⟨rfl, hb2⟩
    have h02 := h01.trans (hb2.mono (by have := h01.size; have := HN0.out; omega))
    clear hb2 HB1
    go_wp2_with fail
    refine (HN.out w2).mono ?_
    rintro e w3 ⟨rfl, hb3⟩
    have h03 := h02.trans (hb3.mono (by have := h02.size; have := HN0.out; omega))
    clear hb3 HN
    go_upto_region 3 with fail
    obtain ⟨q1, hq1⟩ : ∃ q : Bool, q = ((!A && (xa != 0)) || ((!T && (xb != 0)) || (!G && decide (0 < la)))) := ⟨_, rfl⟩
    have HQ1 := hid hq1
    clear hq1
    go_cut [61] (fun p wc => p = .bool q1 ∧ w3 = wc)
    case first =>
      clear HD HF HN2
      have hA3 : (A = true ∨ (A = false ∧ (xa != 0) = false)) ∨ (A = false ∧ (xa != 0) = true) := by cases A <;> cases (xa != 0) <;> simp
      have hT3 : (T = true ∨ (T = false ∧ (xb != 0) = false)) ∨ (T = false ∧ (xb != 0) = true) := by cases T <;> cases (xb != 0) <;> simp
      have hG3 : (G = true ∨ (G = false ∧ ¬ (0 : Int) < la)) ∨ (G = false ∧ (0 : Int) < la) := by cases G <;> simp; omega
      rcases hA3 with hA | ⟨rfl, hxa⟩
      · rcases hT3 with hT | ⟨rfl, hxb⟩
        · rcases hA with rfl | ⟨rfl, hxa⟩ <;> rcases hT with rfl | ⟨rfl, hxb⟩ <;> rcases hG3 with (rfl | ⟨rfl, hl⟩) | ⟨rfl, hl⟩ <;> (go_wp2_with (first | (go_at_call 105; refine (HA.out _).mono ?_; rintro e w4 ⟨rfl, rfl⟩) | (go_at_call 106; refine (HT.out _).mono ?_; rintro e w4 ⟨rfl, rfl⟩) | (go_at_call 107; refine (HG.out _).mono ?_; rintro e w4 ⟨rfl, rfl⟩) | (go_at_call 108; refine (HW.out _).mono ?_; rintro e w4 ⟨rfl, rfl⟩))) <;> (go_meet; case rel => exact ⟨congrArg Value.bool (by rw [HQ1.out]; simp [*]; try omega), rfl⟩)
        · clear hG3
          rcases hA with rfl | ⟨rfl, hxa⟩ <;> (go_wp2_with (first | (go_at_call 105; refine (HA.out _).mono ?_; rintro e w4 ⟨rfl, rfl⟩) | (go_at_call 106; refine (HT.out _).mono ?_; rintro e w4 ⟨rfl, rfl⟩) | (go_at_call 107; refine (HG.out _).mono ?_; rintro e w4 ⟨rfl, rfl⟩) | (go_at_call 108; refine (HW.out _).mono ?_; rintro e w4 ⟨rfl, rfl⟩))) <;> (go_meet; case rel => exact ⟨congrArg Value.bool (by rw [HQ1.out]; simp [*]), rfl⟩)
      · clear hT3 hG3
        go_wp2_with (first | (go_at_call 105; refine (HA.out _).mono ?_; rintro e w4 ⟨rfl, rfl⟩) | (go_at_call 106; refine (HT.out _).mono ?_; rintro e w4 ⟨rfl, rfl⟩) | (go_at_call 107; refine (HG.out _).mono ?_; rintro e w4 ⟨rfl, rfl⟩) | (go_at_call 108; refine (HW.out _).mono ?_; rintro e w4 ⟨rfl, rfl⟩))
        go_meet
        case rel => exact ⟨congrArg Value.bool (by rw [HQ1.out]; simp [*]), rfl⟩
    case rest =>
      obtain ⟨rfl, rfl⟩ := hcut
      cases q1 with
      | true =>
        have hq : (A = false ∧ xa ≠ 0) ∨ (T = false ∧ xb ≠ 0) ∨ (G = false ∧ 0 < la) := by have := HQ1.out; simpa using this
        rw [if_pos hq] at HD
        clear hq
        go_wp2 <;> first | (exfalso; omega) | (go_ret; exact ⟨by rw [HD.out]; rfl, HBW.out.trans (h03.mono (by have := HN2.out; omega))⟩)
      | false =>
      have hq : ¬ ((A = false ∧ xa ≠ 0) ∨ (T = false ∧ xb ≠ 0) ∨ (G = false ∧ 0 < la)) := fun h => by
        have := HQ1.out
        cases A <;> cases T <;> cases G <;> simp at this h <;> omega
      rw [if_neg hq] at HD
      clear hq HQ1
      go_upto_region 5 with fail
      obtain ⟨q2, hq2⟩ : ∃ q : Bool, q = ((AN && (decide (typ < 0) || decide ((nt : Int) ≤ typ))) || (!AN && (typ != 0))) := ⟨_, rfl⟩
      have HQ2 := hid hq2
      clear hq2
      go_cut [88] (fun p wc => p = .bool q2 ∧ w3 = wc)
      case first =>
        clear HD HF HN2
        cases AN with
        | true =>
          by_cases t0 : typ < 0
          · (go_wp2_with (first | (go_at_call 105; refine (HA.out _).mono ?_; rintro e w4 ⟨rfl, rfl⟩) | (go_at_call 106; refine (HT.out _).mono ?_; rintro e w4 ⟨rfl, rfl⟩) | (go_at_call 107; refine (HG.out _).mono ?_; rintro e w4 ⟨rfl, rfl⟩) | (go_at_call 108; refine (HW.out _).mono ?_; rintro e w4 ⟨rfl, rfl⟩))) <;> first | (exfalso; omega) | (go_meet; case rel => exact ⟨congrArg Value.bool (by rw [HQ2.out]; simp [*]), rfl⟩)
          · by_cases t1 : (nt : Int) ≤ typ
            · (go_wp2_with (first | (go_at_call 105; refine (HA.out _).mono ?_; rintro e w4 ⟨rfl, rfl⟩) | (go_at_call 106; refine (HT.out _).mono ?_; rintro e w4 ⟨rfl, rfl⟩) | (go_at_call 107; refine (HG.out _).mono ?_; rintro e w4 ⟨rfl, rfl⟩) | (go_at_call 108; refine (HW.out _).mono ?_; rintro e w4 ⟨rfl, rfl⟩))) <;> first | (exfalso; omega) | (go_meet; case rel => exact ⟨congrArg Value.bool (by rw [HQ2.out]; simp [*]), rfl⟩)
            · (go_wp2_with (first | (go_at_call 105; refine (HA.out _).mono ?_; rintro e w4 ⟨rfl, rfl⟩) | (go_at_call 106; refine (HT.out _).mono ?_; rintro e w4 ⟨rfl, rfl⟩) | (go_at_call 107; refine (HG.out _).mono ?_; rintro e w4 ⟨rfl, rfl⟩) | (go_at_call 108; refine (HW.out _).mono ?_; rintro e w4 ⟨rfl, rfl⟩))) <;> first | (exfalso; omega) | (go_meet; case rel => exact ⟨congrArg Value.bool (by rw [HQ2.out]; simp; omega), rfl⟩)
        | false =>
          cases ht : (typ != 0) with
          | true =>
            (go_wp2_with (first | (go_at_call 105; refine (HA.out _).mono ?_; rintro e w4 ⟨rfl, rfl⟩) | (go_at_call 106; refine (HT.out _).mono ?_; rintro e w4 ⟨rfl, rfl⟩) | (go_at_call 107; refine (HG.out _).mono ?_; rintro e w4 ⟨rfl, rfl⟩) | (go_at_call 108; refine (HW.out _).mono ?_; rintro e w4 ⟨rfl, rfl⟩))) <;> first | (exfalso; omega) | (go_meet; case rel => exact ⟨congrArg Value.bool (by rw [HQ2.out, ht]; rfl), rfl⟩)
          | false =>
            (go_wp2_with (first | (go_at_call 105; refine (HA.out _).mono ?_; rintro e w4 ⟨rfl, rfl⟩) | (go_at_call 106; refine (HT.out _).mono ?_; rintro e w4 ⟨rfl, rfl⟩) | (go_at_call 107; refine (HG.out _).mono ?_; rintro e w4 ⟨rfl, rfl⟩) | (go_at_call 108; refine (HW.out _).mono ?_; rintro e w4 ⟨rfl, rfl⟩))) <;> first | (exfalso; omega) | (go_meet; case rel => exact ⟨congrArg Value.bool (by rw [HQ2.out, ht]; rfl), rfl⟩)
      case rest =>
        obtain ⟨rfl, rfl⟩ := hcut
        cases q2 with
        | true =>
          have hq : (AN = true ∧ (typ < 0 ∨ (nt : Int) ≤ typ)) ∨ (AN = false ∧ typ ≠ 0) := by have := HQ2.out; simpa using this
          rw [if_pos hq] at HD
          clear hq
          go_wp2 <;> first | (exfalso; omega) | (go_ret; exact ⟨by rw [HD.out]; rfl, HBW.out.trans (h03.mono (by have := HN2.out; omega))⟩)
        | false =>
        have hq : ¬ ((AN = true ∧ (typ < 0 ∨ (nt : Int) ≤ typ)) ∨ (AN = false ∧ typ ≠ 0)) := fun h => by
          have := HQ2.out
          cases AN <;> simp at this h <;> omega
        rw [if_neg hq] at HD
        clear hq HQ2
        have HBE := hid (HBW.out.trans (h03.mono (by have := HN2.out; omega)))
        by_cases o22 : op = 22
        · rw [if_pos o22] at HD
          subst o22
          by_cases e1 : lf = la
          · by_cases e2 : 1 ≤ lf
            · by_cases e3 : lf ≤ 16
              · have HFC := hid (HF.out _ h03)
                rw [decide_eq_true ⟨e1, e2, e3⟩] at HD
                subst e1
                have e4 : (1 : Int) ≤ lf := by omega
                have e5 : (lf : Int) ≤ 16 := by omega
                clear HF e2 e3
                go_wp2_with fail
                refine HFC.out.mono ?_
                rintro e w4 ⟨rfl, hb4⟩
                have hbe4 := HBE.out.trans (hb4.mono HBE.out.size)
                clear hb4 HFC
                go_wp2 <;> first | (exfalso; omega) | (go_ret; exact ⟨by rw [HD.out]; rfl, hbe4⟩)
              · rw [decide_eq_false (fun h => e3 h.2.2)] at HD
                subst e1
                have e4 : (1 : Int) ≤ lf := by omega
                have e5 : ¬ (lf : Int) ≤ 16 := by omega
                clear HF e2 e3
                go_wp2 <;> first | (exfalso; omega) | (go_ret; exact ⟨by rw [HD.out]; rfl, HBE.out⟩)
            · rw [decide_eq_false (fun h => e2 h.2.1)] at HD
              subst e1
              have e4 : ¬ (1 : Int) ≤ lf := by omega
              clear HF e2
              go_wp2 <;> first | (exfalso; omega) | (go_ret; exact ⟨by rw [HD.out]; rfl, HBE.out⟩)
          · rw [decide_eq_false (fun h => e1 h.1)] at HD
            have e4 : ((lf : Int) == (la : Int)) = false := by simp; omega
            clear HF e1
            go_wp2 <;> first | (exfalso; omega) | (go_ret; exact ⟨by rw [HD.out]; rfl, HBE.out⟩)
        · rw [if_neg o22] at HD
          have e22 : (op == 22) = false := by simpa using o22
          by_cases e1 : lf = 0
          · have e4 : ((lf : Int) == 0) = true := by simp; omega
            by_cases e2 : la ≤ 4
            · have e3 : (la : Int) ≤ 4 := by omega
              rw [decide_eq_true ⟨e1, e2⟩] at HD
              clear HF e1 e2 o22
              go_wp2 <;> first | (exfalso; omega) | (go_ret; exact ⟨by rw [HD.out]; rfl, HBE.out⟩)
            · have e3 : ¬ (la : Int) ≤ 4 := by omega
              rw [decide_eq_false (fun h => e2 h.2)] at HD
              clear HF e1 e2 o22
              go_wp2 <;> first | (exfalso; omega) | (go_ret; exact ⟨by rw [HD.out]; rfl, HBE.out⟩)
          · have e4 : ((lf : Int) == 0) = false := by simp; omega
            rw [decide_eq_false (fun h => e1 h.1)] at HD
            clear HF e1 o22
            go_wp2 <;> first | (exfalso; omega) | (go_ret; exact ⟨by rw [HD.out]; rfl, HBE.out⟩)
end Go.Proofs.YtkohdofbjoomjaaGreatDoor.ShRB

namespace Go.Proofs.YtkohdofbjoomjaaGreatDoor.ShRC
open Go.RowKit Go.Lib RwO SetP IntO TyM TyP TyB TyC TyRA ShM ShP ShA ShB ShC ShE ShRA ShRB ShH Aft

theorem ints_two {w : World} {m : Nat} {a b : Int} (h : w.heap.size = m) : IntsAt (w.alloc (.cells #[.int .i64 a, .int .i64 b] 3)) (.slice (some ⟨m, 0, none⟩) 2 2) [a, b] := by
  subst h
  exact intsAt_of_owns (l := [a, b]) (ownsRow_lit w [.int .i64 a, .int .i64 b] 3 2 rfl (by unfold maxLen; omega)) (by simp)
theorem ints_new {w : World} {m : Nat} {a : Int} (h : w.heap.size = m) : IntsAt (w.alloc (.cells #[.int .i64 a] 3)) (.slice (some ⟨m, 0, none⟩) 1 1) [a] := ints_one (cell_new _ _ _ _ h) (size_new _ _ _ h)

set_option maxRecDepth 100000 in
set_option maxHeartbeats 4000000 in
theorem mayEndR_calls (x : Ex) (nr nb : Int) (w : World) : Calls Tryz.prog 89 #[exV x, .int .i64 nr, .int .i64 nb] w (BoolR (mayER nr nb x) w) := by
  obtain ⟨W, hW⟩ : ∃ W, W = w.alloc (.cells #[.int .u8 x.kind, .int .i64 x.a, .int .i64 x.to, .int .i64 x.els] 56) := ⟨_, rfl⟩
  have hbW : Below w.heap.size w W := by rw [hW]; exact alloc_below _ _
  have hsW : W.heap.size = w.heap.size + 1 := by rw [hW, World.size_alloc]
  have k1 : W.heap[w.heap.size]? = some (.cells #[.int .u8 x.kind, .int .i64 x.a, .int .i64 x.to, .int .i64 x.els] 56 (0, 0)) := by rw [hW]; exact alloc_new _ _
  have m0 := later_cells k1 0 _ rfl; have m1 := later_cells k1 1 _ rfl; have m2 := later_cells k1 2 _ rfl; have m3 := later_cells k1 3 _ rfl
  have HB1 := hid (fun (wx : World) (m : Nat) (hm : wx.heap.size = m) (a lim : Int) => belowR_calls lim (.slice (some ⟨m, 0, none⟩) 1 1) [a] (wx.alloc (.cells #[.int .i64 a] 3)) (ints_new hm))
  have HB2 := hid (fun (wx : World) (m : Nat) (hm : wx.heap.size = m) (a b lim : Int) => belowR_calls lim (.slice (some ⟨m, 0, none⟩) 2 2) [a, b] (wx.alloc (.cells #[.int .i64 a, .int .i64 b] 3)) (ints_two hm))
  have HBW := hid hbW
  have HW := hid hW
  have HSW := hid hsW
  have h0 := Aft.refl W
  clear hbW hW hsW k1
  obtain ⟨kd, xa, xt, xe⟩ := x
  simp only at *
  unfold mayER
  simp only
  by_cases k1 : kd = 1
  · rw [if_pos k1]
    subst k1
    have hd : ∀ b : Bool, (decide (xa = 0 ∧ xe = 0) && b) = ((xa == 0) && ((xe == 0) && b)) := fun b => by rw [Bool.eq_iff_iff]; simp [and_assoc]
    rw [hd]
    clear hd
    cases ha : (xa == 0) with
    | false =>
      go_enter Tryz.func89, Tryz.ntmps89
      go_wp2
      go_ret
      exact ⟨rfl, by rw [← HW.out]; exact HBW.out⟩
    | true =>
      cases he : (xe == 0) with
      | false =>
        go_enter Tryz.func89, Tryz.ntmps89
        go_wp2
        go_ret
        exact ⟨rfl, by rw [← HW.out]; exact HBW.out⟩
      | true =>
        have HC := hid (HB1.out W _ rfl xt nb)
        generalize lowB nb [xt] = q at *
        rw [HSW.out] at HC
        go_enter Tryz.func89, Tryz.ntmps89
        go_wp2_with fail
        rw [← HW.out]
        refine HC.out.mono ?_
        rintro e w1 ⟨rfl, hb1⟩
        have h1 := (h0.alloc _).go hb1
        clear hb1 HC
        go_wp2
        go_ret
        exact ⟨rfl, h1.out HBW.out⟩
  rw [if_neg k1]
  have e1 : (kd == 1) = false := by simpa using k1
  by_cases k2 : kd = 2
  · rw [if_pos k2]
    subst k2
    clear k1
    have HC := hid (HB1.out W _ rfl xa nr)
    have HC2 := hid (fun wx => HB2.out wx _ rfl xt xe nb)
    rw [HSW.out] at HC
    generalize lowB nr [xa] = q at *
    generalize lowB nb [xt, xe] = q2 at *
    cases q with
    | false =>
      go_enter Tryz.func89, Tryz.ntmps89
      go_wp2_with fail
      rw [← HW.out]
      refine HC.out.mono ?_
      rintro e w1 ⟨rfl, hb1⟩
      have h1 := (h0.alloc _).go hb1
      clear hb1 HC
      go_wp2
      go_ret
      exact ⟨rfl, h1.out HBW.out⟩
    | true =>
      go_enter Tryz.func89, Tryz.ntmps89
      go_wp2_with fail
      rw [← HW.out]
      refine HC.out.mono ?_
      rintro e w1 ⟨rfl, hb1⟩
      have h1 := (h0.alloc _).go hb1
      clear hb1 HC
      go_wp2_with fail
      refine (HC2.out w1).mono ?_
      rintro e w2 ⟨rfl, hb2⟩
      have h2 := (h1.alloc _).go hb2
      clear hb2 HC2
      go_wp2
      go_ret
      exact ⟨rfl, h2.out HBW.out⟩
  rw [if_neg k2]
  have e2 : (kd == 2) = false := by simpa using k2
  by_cases k3 : kd = 3
  · rw [if_pos k3]
    subst k3
    clear k1 k2
    have hd : ∀ b : Bool, (decide (xt = 0 ∧ xe = 0) && b) = ((xt == 0) && ((xe == 0) && b)) := fun b => by rw [Bool.eq_iff_iff]; simp [and_assoc]
    rw [hd]
    clear hd
    cases ha : (xt == 0) with
    | false =>
      go_enter Tryz.func89, Tryz.ntmps89
      go_wp2
      go_ret
      exact ⟨rfl, by rw [← HW.out]; exact HBW.out⟩
    | true =>
      cases he : (xe == 0) with
      | false =>
        go_enter Tryz.func89, Tryz.ntmps89
        go_wp2
        go_ret
        exact ⟨rfl, by rw [← HW.out]; exact HBW.out⟩
      | true =>
        have HC := hid (HB1.out W _ rfl xa nr)
        generalize lowB nr [xa] = q at *
        rw [HSW.out] at HC
        go_enter Tryz.func89, Tryz.ntmps89
        go_wp2_with fail
        rw [← HW.out]
        refine HC.out.mono ?_
        rintro e w1 ⟨rfl, hb1⟩
        have h1 := (h0.alloc _).go hb1
        clear hb1 HC
        go_wp2
        go_ret
        exact ⟨rfl, h1.out HBW.out⟩
  rw [if_neg k3]
  have e3 : (kd == 3) = false := by simpa using k3
  clear k1 k2 k3
  go_enter Tryz.func89, Tryz.ntmps89
  go_wp2
  go_ret
  exact ⟨rfl, by rw [← HW.out]; exact HBW.out⟩
end Go.Proofs.YtkohdofbjoomjaaGreatDoor.ShRC

namespace Go.Proofs.YtkohdofbjoomjaaGreatDoor.ShRF
open Go.RowKit Go.Lib RwO SetP IntO TyM TyP TyB TyC TyRA ShM ShP ShA ShB ShC ShE ShRA ShH ShI Aft

set_option maxRecDepth 100000 in
set_option maxHeartbeats 8000000 in
theorem mayFuncR_calls (t : List Ty) (nf : Nat) (f : Fx) (vt vb : Value) (fa : Option Addr) (fcap : Nat) (w : World) (ht : TysAt w vt t) (hb : BlksAt w vb f.blocks) (hsm : manyB f.blocks ≤ 20000) (hpar : ∀ x ∈ t, x.parts.length ≤ 20000)
    (hok : ∀ b ∈ f.blocks, (0 ≤ b.en.kind ∧ b.en.kind ≤ 255) ∧ ∀ y ∈ b.ins, 0 ≤ y.op ∧ y.op ≤ 255) (hag : ∀ b ∈ f.blocks, ∀ y ∈ b.ins, y.args.length ≤ 20000) :
    Calls Tryz.prog 77 #[.agg #[vt, .slice fa nf fcap], fxV f vb] w (BoolR (mayF t nf f) w) := by
  obtain ⟨W, hW⟩ : ∃ W, W = (w.alloc (.cells #[vt, .slice fa nf fcap] 25)).alloc (.cells #[.int .i64 f.sig, vb] 53) := ⟨_, rfl⟩
  have hbW : Below w.heap.size w W := by rw [hW]; exact ShRB.two_below _ _ _
  have k1 : W.heap[w.heap.size]? = some (.cells #[vt, .slice fa nf fcap] 25 (0, 0)) := by rw [hW]; exact alloc_old (alloc_new _ _) _
  have k2 : W.heap[w.heap.size + 1]? = some (.cells #[.int .i64 f.sig, vb] 53 (0, 0)) := by
    rw [hW]
    have := alloc_new (w.alloc (.cells #[vt, .slice fa nf fcap] 25)) (.cells #[.int .i64 f.sig, vb] 53)
    rwa [World.size_alloc] at this
  have htW := ht.below hbW
  have hbl := hb.below blkStays hbW
  have HT := hid ht
  have HBL := hid hbl
  have HI := hid (fun wx (hx : Aft W wx) => many_calls vb f.blocks wx (hbl.below blkStays hx.below) (by omega))
  have HP := hid (fun (h0 : 0 ≤ f.sig) (h1 : f.sig < t.length) wx (hx : Aft W wx) => paramsR_calls t f vt (.slice fa nf fcap) vb wx (htW.below hx.below) ⟨_, _, _, rfl⟩ h0 h1 hbl.slice)
  have HOK := hid hok
  have HAG := hid hag
  obtain ⟨ta, tc, rfl⟩ := ht.slice
  obtain ⟨ba, bc, rfl, hbll⟩ := hb.slice
  have l0 := later_cells k1 0 _ rfl; have l1 := later_cells k1 1 _ rfl
  have m0 := later_cells k2 0 _ rfl; have m1 := later_cells k2 1 _ rfl
  have htl : t.length ≤ 9223372036854775807 := by obtain ⟨_, _, _, h, _⟩ := ht; exact h
  have HD : Hid (mayF t nf f = if ¬ (0 ≤ f.sig ∧ f.sig < t.length) then false
    else if kindAt t f.sig ≠ 3 then false
    else if f.blocks.length < 1 ∨ 16 < f.blocks.length ∨ 128 < manyB f.blocks then false
    else f.blocks.all (mayBl (limL t.length ((parOf t f.sig + manyB f.blocks : Nat) : Int) nf f.blocks.length))) := rfl
  generalize mayF t nf f = ans at *
  have HBW := hid hbW
  have HW := hid hW
  have h0 := Aft.refl W
  clear ht hb hok hag hbW hW k1 k2 htW hbl
  by_cases hs : 0 ≤ f.sig ∧ f.sig < t.length
  rotate_left
  · rw [if_pos hs] at HD
    have hs2 : f.sig < 0 ∨ (¬ f.sig < 0 ∧ (t.length : Int) ≤ f.sig) := by omega
    clear HI HP HT HBL HOK HAG hpar hs
    obtain ⟨sg, bl⟩ := f
    simp only at *
    generalize t.length = n1 at *
    generalize bl.length = n3 at *
    rcases hs2 with s1 | ⟨s1, s2⟩
    · go_enter Tryz.func77, Tryz.ntmps77
      go_wp2
      go_ret
      exact ⟨by rw [HD.out]; rfl, by rw [← HW.out]; exact HBW.out⟩
    · go_enter Tryz.func77, Tryz.ntmps77
      go_wp2
      go_ret
      exact ⟨by rw [HD.out]; rfl, by rw [← HW.out]; exact HBW.out⟩
  obtain ⟨k, hk⟩ : ∃ k : Nat, f.sig = k := ⟨f.sig.toNat, by omega⟩
  have hkt : k < t.length := by omega
  have hkind : kindAt t f.sig = t[k].kind := by unfold kindAt; rw [hk, Int.toNat_natCast, List.getElem?_eq_getElem hkt]; rfl
  rw [if_neg (fun h => h hs), hkind] at HD
  obtain ⟨tb, off, rfl, hlt, pv, c0, z1, z2, z3, z4⟩ := HT.out.at k hkt
  have hsm2 : parOf t f.sig + manyB f.blocks ≤ 1000000 := by
    rw [hk, parOf_at hkt]
    have := hpar _ (List.getElem_mem hkt)
    omega
  have HPP := hid (HP.out hs.1 hs.2)
  have d0 := later ((HBW.out.cell (p := ⟨tb, off + k * 4, none⟩) hlt).trans c0)
  have HWR := hid (sum_wrap hsm2)
  clear HP HT hpar hkind z1 z2 z3 z4
  generalize t[k].kind = kk at *
  clear hkt
  generalize parOf t f.sig = np at *
  generalize hnm : manyB f.blocks = nm at *
  have HNM := hid hnm
  clear hnm
  have hsg : ¬ f.sig < 0 := by omega
  have hsg2 : ¬ (t.length : Int) ≤ f.sig := by omega
  have HHS := hid hs
  by_cases hkk : kk = 3
  rotate_left
  · rw [if_pos hkk] at HD
    have e3 : (kk != 3) = true := by simpa using hkk
    clear HI HPP HBL HOK HAG hkk
    obtain ⟨sg, bl⟩ := f
    simp only at *
    generalize t.length = n1 at *
    generalize bl.length = n3 at *
    subst hk
    go_enter Tryz.func77, Tryz.ntmps77
    go_wp2
    go_ret
    exact ⟨by rw [HD.out]; rfl, by rw [← HW.out]; exact HBW.out⟩
  rw [if_neg (fun h => h hkk)] at HD
  subst hkk
  by_cases h13 : f.blocks.length < 1 ∨ (¬ f.blocks.length < 1 ∧ 16 < f.blocks.length)
  · rw [if_pos (by omega)] at HD
    clear HI HPP HBL HOK HAG
    obtain ⟨sg, bl⟩ := f
    simp only at *
    generalize t.length = n1 at *
    generalize bl.length = n3 at *
    subst hk
    have h14 : (n3 : Int) < 1 ∨ (¬ (n3 : Int) < 1 ∧ (16 : Int) < n3) := by omega
    rcases h14 with h14 | ⟨h14, h15⟩
    · go_enter Tryz.func77, Tryz.ntmps77
      go_wp2 <;> first | (exfalso; omega) | (go_ret; exact ⟨by rw [HD.out]; rfl, by rw [← HW.out]; exact HBW.out⟩)
    · go_enter Tryz.func77, Tryz.ntmps77
      go_wp2 <;> first | (exfalso; omega) | (go_ret; exact ⟨by rw [HD.out]; rfl, by rw [← HW.out]; exact HBW.out⟩)
  have g1 : ¬ (f.blocks.length : Int) < 1 := by omega
  have g16 : ¬ (16 : Int) < f.blocks.length := by omega
  by_cases hm : 128 < nm
  · rw [if_pos (by omega)] at HD
    have gm : (128 : Int) < nm := by omega
    have HIC := hid (HI.out W h0)
    clear HI HPP HBL HOK HAG h13
    obtain ⟨sg, bl⟩ := f
    simp only at *
    generalize t.length = n1 at *
    generalize bl.length = n3 at *
    subst hk
    go_enter Tryz.func77, Tryz.ntmps77
    go_wp2_with fail
    all_goals (try (exfalso; omega))
    rw [← HW.out]
    refine HIC.out.mono ?_
    rintro e w1 ⟨rfl, hb1⟩
    have h1 := h0.go hb1
    clear hb1 HIC
    go_wp2 <;> first | (exfalso; omega) | (go_ret; exact ⟨by rw [HD.out]; rfl, h1.out HBW.out⟩)
  rw [if_neg (by omega)] at HD
  have gm : ¬ (128 : Int) < nm := by omega
  have HIC := hid (HI.out W h0)
  obtain ⟨sg, bl⟩ := f
  simp only at *
  generalize t.length = n1 at *
  generalize hn3 : bl.length = n3 at *
  have HN3 := hid hn3
  subst hk
  clear hn3 h13 hm
  go_enter Tryz.func77, Tryz.ntmps77
  go_wp2_with fail
  all_goals (try (exfalso; omega))
  rw [← HW.out]
  refine HIC.out.mono ?_
  rintro e w1 ⟨rfl, hb1⟩
  have h1 := h0.go hb1
  clear hb1 HIC
  have h1d := h1.drew
  have hwr := HWR.out
  go_upto_region 3 with fail
  all_goals (try (exfalso; omega))
  have HPC := hid (HPP.out _ h1d)
  clear h1 hlt
  go_region_held3 (fun w' => Aft W w') (first | exact (h1d.go hb3).go hb4 | exact h1d.go hb3 | exact h1d)
    (first | (go_at_call 67; refine HPC.out.mono ?_; rintro e w3 ⟨rfl, hb3⟩) | (go_at_call 68; refine (HI.out w3 (h1d.go hb3)).mono ?_; rintro e w4 ⟨rfl, hb4⟩))
  have h4 := (h1d.go hb3).go hb4
  have HH4 := hid h4
  clear HPC HPP HI hb3 hb4 hwr HWR h1d c0
  have HL0 : Hid (∀ x : Ix, 0 ≤ x.op → mayI (limL n1 ((np + nm : Nat) : Int) nf n3) x = mayIR n1 ((np + nm : Nat) : Int) nf n3 x) := fun x hx => ShN.mayI_eq hx
  have HL1 : Hid (∀ x : Ex, 0 ≤ x.kind → mayE (limL n1 ((np + nm : Nat) : Int) nf n3) x = mayER ((np + nm : Nat) : Int) n3 x) := fun x hx => ShN.mayE_eq hx
  have hcast : ((np + nm : Nat) : Int) = (np : Int) + (nm : Int) := by omega
  rw [hcast] at HL0 HL1 HD
  clear hcast
  obtain ⟨nr, hnr⟩ : ∃ nr : Int, nr = (np : Int) + (nm : Int) := ⟨_, rfl⟩
  rw [← hnr] at HL0 HL1 HD ⊢
  clear hnr
  clear h4
  go_wp2_with fail
  go_loopg [6, 7] n3 (fun gk i _ wr => ∃ k : Nat, k + gk = n3 ∧ i = .int .i64 k ∧ (bl.take k).all (mayBl (limL n1 nr nf n3)) = true ∧ Aft W wr)
  case atStart => exact ⟨0, by omega, rfl, rfl, HH4.out⟩
  case round =>
    obtain ⟨i, hi, rfl, hall, hr⟩ := hrel
    have HK := hid hi
    have HALL := hid hall
    clear hall
    by_cases hlt : i < n3
    · have hlb : i < bl.length := by rw [HN3.out]; exact hlt
      obtain ⟨b, bo, rfl, hbs, vi, b0, b1, b2, b3, b4, hins⟩ := HBL.out.at i hlb
      have j0 := later b0; have j1 := later b1; have j2 := later b2; have j3 := later b3; have j4 := later b4
      have HTK := hid (all_take (q := mayBl (limL n1 nr nf n3)) hlb HALL.out)
      have HNO := hid (all_not (q := mayBl (limL n1 nr nf n3)) hlb)
      have hmem := List.getElem_mem hlb
      have HO := hid (HOK.out _ hmem)
      have HA := hid (HAG.out _ hmem)
      have HBF : Hid (bl[i].ins.all (mayI (limL n1 nr nf n3)) = false → mayBl (limL n1 nr nf n3) bl[i] = false) := fun h => by unfold mayBl; rw [h, Bool.and_false]
      have HBE : Hid (mayE (limL n1 nr nf n3) bl[i].en = false → mayBl (limL n1 nr nf n3) bl[i] = false) := fun h => by unfold mayBl; rw [h]; rfl
      have HBT : Hid (mayE (limL n1 nr nf n3) bl[i].en = true → bl[i].ins.all (mayI (limL n1 nr nf n3)) = true → mayBl (limL n1 nr nf n3) bl[i] = true) := fun h1 h2 => by unfold mayBl; rw [h1, h2]; rfl
      clear hi b0 b1 b2 b3 b4 hbs hmem
      generalize bl[i] = y at *
      clear hlb
      obtain ⟨ia, ic, rfl, hil⟩ := hins.slice
      have HIN := hid hins
      clear hins
      obtain ⟨wo, hwo⟩ : ∃ wo : World, wo = wr := ⟨wr, rfl⟩
      subst hwo
      obtain ⟨go, hgo⟩ : ∃ go : Nat, go = gk := ⟨gk, rfl⟩
      subst hgo
      have HRO := hid hr
      go_wp2_with fail
      clear hr
      go_loopg [7] y.ins.length (fun gk q wr => ∃ k : Nat, k + gk = y.ins.length ∧ q = .int .i64 k ∧ (y.ins.take k).all (mayI (limL n1 nr nf n3)) = true ∧ Aft W wr)
      case atStart => exact ⟨0, by omega, rfl, rfl, HRO.out⟩
      case round =>
        obtain ⟨q, hq, rfl, hallq, hr⟩ := hrel
        have HQ := hid hq
        have HALQ := hid hallq
        clear hallq
        by_cases hql : q < y.ins.length
        · obtain ⟨ib, io, rfl, _, va, vf, i0, i1, i2, i3, i4, i5, i6, hva, hvf⟩ := HIN.out.at q hql
          have y0 := later i0; have y1 := later i1; have y2 := later i2; have y3 := later i3; have y4 := later i4; have y5 := later i5; have y6 := later i6
          have HTQ := hid (all_take (q := mayI (limL n1 nr nf n3)) hql HALQ.out)
          have HNQ := hid (all_not (q := mayI (limL n1 nr nf n3)) hql)
          have hmem := List.getElem_mem hql
          have hop := HO.out.2 _ hmem
          have hag := HA.out _ hmem
          have heq := HL0.out _ hop.1
          clear hq i0 i1 i2 i3 i4 i5 i6 hmem
          generalize y.ins[q] = x at *
          have hrd := hr.drew
          have HC := hid (ShRB.mayIns_calls x (some ⟨tb, off, none⟩) n1 tc fa nf fcap nr n3 va vf wr.drew hop (hva.below hrd.below) (hvf.below hrd.below) hag)
          rw [← heq] at HC
          obtain ⟨aa, ac, rfl, _⟩ := ints_slice hva
          obtain ⟨fa2, fc2, rfl, _⟩ := ints_slice hvf
          clear hva hvf hop hag heq
          generalize mayI (limL n1 nr nf n3) x = ok at *
          have hlq : (q : Int) < y.ins.length := by omega
          go_upto_region 10 with fail
          go_region_held3 (fun w' => Aft W w') (first | exact hrd.go hb5 | exact hrd) ((go_at_call 88; refine HC.out.mono ?_; rintro e w5 ⟨rfl, hb5⟩))
          have h5 := hrd.go hb5
          clear hb5 hrd HC
          cases ok with
          | false =>
            have HANS : Hid (ans = false) := by
              show _ = _
              rw [HD.out]
              exact Bool.eq_false_iff.2 (HNO.out (HBF.out (Bool.eq_false_iff.2 (HNQ.out rfl))))
            clear HNO HBF HNQ
            go_wp2
            go_ret
            exact ⟨by rw [HANS.out]; rfl, h5.out HBW.out⟩
          | true =>
            have HT2 := hid (HTQ.out rfl)
            clear HTQ HNQ
            go_wp2
            go_roundg (gk - 1)
            case measure => have := HQ.out; omega
            case rel => exact ⟨q + 1, by have := HQ.out; omega, by go_num, HT2.out, h5⟩
        · obtain rfl : q = y.ins.length := by omega
          have HALL2 : Hid (y.ins.all (mayI (limL n1 nr nf n3)) = true) := by
            have := HALQ.out
            rwa [List.take_length] at this
          have HE := hid (ShRC.mayEndR_calls y.en nr n3 wr.drew)
          have heq := HL1.out _ HO.out.1.1
          rw [← heq] at HE
          have hrd := hr.drew
          clear hq heq
          generalize mayE (limL n1 nr nf n3) y.en = ok at *
          go_upto_region 12 with fail
          go_region_held3 (fun w' => Aft W w') (first | exact hrd.go hb5 | exact hrd) ((go_at_call 89; refine HE.out.mono ?_; rintro e w5 ⟨rfl, hb5⟩))
          have h5 := hrd.go hb5
          clear hb5 hrd HE
          cases ok with
          | false =>
            have HANS : Hid (ans = false) := by
              show _ = _
              rw [HD.out]
              exact Bool.eq_false_iff.2 (HNO.out (HBE.out rfl))
            clear HNO HBE
            go_wp2
            go_ret
            exact ⟨by rw [HANS.out]; rfl, h5.out HBW.out⟩
          | true =>
            have HT2 := hid (HTK.out (HBT.out rfl HALL2.out))
            clear HTK HBT
            go_wp2
            go_roundg (go - 1)
            case measure => have := HK.out; omega
            case rel => exact ⟨i + 1, by have := HK.out; omega, by go_num, HT2.out, h5⟩
    · obtain rfl : i = n3 := by omega
      have HANS : Hid (ans = true) := by
        show _ = _
        have := HALL.out
        rw [← HN3.out, List.take_length, HN3.out] at this
        rw [HD.out, this]
      clear hi
      go_wp2
      go_ret
      exact ⟨by rw [HANS.out]; rfl, hr.out HBW.out⟩
end Go.Proofs.YtkohdofbjoomjaaGreatDoor.ShRF

namespace Go.Proofs.YtkohdofbjoomjaaGreatDoor.ShRG
open Go.RowKit Go.Lib RwO SetP IntO TyM TyP TyB TyC TyRA ShM ShP ShA ShB ShC ShE ShRA ShH ShI Aft

set_option maxRecDepth 100000 in
set_option maxHeartbeats 8000000 in
theorem checkP_calls (p : Px) (v : Value) (w : World) (hp : PrAt w v p) (hs : Small p) (hok : POk p) :
    Calls Tryz.prog 66 #[v] w (NumR (chkP p) w) := by
  obtain ⟨vt, vf, rfl, ht, hf⟩ := hp
  obtain ⟨W, hW⟩ : ∃ W, W = w.alloc (.cells #[vt, vf] 25) := ⟨_, rfl⟩
  have hbW : Below w.heap.size w W := by rw [hW]; exact alloc_below _ _
  have k1 : W.heap[w.heap.size]? = some (.cells #[vt, vf] 25 (0, 0)) := by rw [hW]; exact alloc_new _ _
  have HCK := hid (TyRB.checkR_calls p.types vt W (ht.below hbW))
  have HF := hid (hf.below fnStays hbW)
  have HT := hid (ht.below hbW)
  have HS := hid hs
  have HOK := hid hok
  obtain ⟨ta, tc, rfl⟩ := ht.slice
  obtain ⟨fa, fc, rfl, hfl⟩ := hf.slice
  have l0 := later_cells k1 0 _ rfl; have l1 := later_cells k1 1 _ rfl
  have HD : Hid (chkP p = if chkT p.types ≠ 0 then chkT p.types else if p.funcs.length < 1 ∨ 8 < p.funcs.length then 60 else if p.funcs.all (mayF p.types p.funcs.length) = true then 0 else 60) := rfl
  generalize chkP p = ans at *
  have HBW := hid hbW
  have HW := hid hW
  have h0 := Aft.refl W
  clear ht hf hbW hW hs hok k1
  by_cases hc : chkT p.types = 0
  rotate_left
  · rw [if_pos hc] at HD
    have e0 : (chkT p.types != 0) = true := by simpa using hc
    generalize chkT p.types = ct at *
    clear HT HF HS HOK
    generalize p.types.length = n1 at *
    generalize p.funcs.length = n2 at *
    go_enter Tryz.func66, Tryz.ntmps66
    go_wp2_with fail
    rw [← HW.out]
    refine HCK.out.mono ?_
    rintro e w1 ⟨rfl, hb1⟩
    have h1 := h0.go hb1
    clear HCK hb1 hc
    go_wp2
    go_ret
    exact ⟨by rw [HD.out]; rfl, h1.out HBW.out⟩
  rw [if_neg (fun h => h hc)] at HD
  rw [hc] at HCK
  clear hc
  have HMF := hid (fun (i : Nat) (h : i < p.funcs.length) (vb : Value) wx (hx : Aft W wx) (hb : BlksAt wx vb p.funcs[i].blocks) =>
    ShRF.mayFuncR_calls p.types p.funcs.length p.funcs[i] (.slice ta p.types.length tc) vb fa fc wx (HT.out.below hx.below) hb (HS.out.many _ (List.getElem_mem h)) HS.out.parts (HOK.out _ (List.getElem_mem h)) (fun b hb x hx => by have := (HS.out.args _ (List.getElem_mem h) b hb x hx).1; omega))
  clear HT HS HOK
  go_enter Tryz.func66, Tryz.ntmps66
  go_wp2_with fail
  rw [← HW.out]
  refine HCK.out.mono ?_
  rintro e w1 ⟨rfl, hb1⟩
  have h1 := h0.go hb1
  clear HCK hb1
  have HH1 := hid h1
  go_wp2_with fail
  go_loopg [4] p.funcs.length (fun gk i wr => ∃ k : Nat, k + gk = p.funcs.length ∧ i = .int .i64 k ∧ (p.funcs.take k).all (mayF p.types p.funcs.length) = true ∧ Aft W wr)
  case atStart => exact ⟨0, by omega, rfl, rfl, HH1.out⟩
  case round =>
    obtain ⟨i, hi, rfl, hall, hr⟩ := hrel
    clear h1
    have HK := hid hi
    have HALL := hid hall
    clear hall
    by_cases hlt : i < p.funcs.length
    · have hrd := hr.drew
      obtain ⟨b, bo, rfl, hbs, vb, b0, b1, hbl⟩ := (HF.out.below fnStays hrd.below).at i hlt
      have j0 := later b0; have j1 := later b1
      have HTK := hid (all_take (q := mayF p.types p.funcs.length) hlt HALL.out)
      have HNO := hid (all_not (q := mayF p.types p.funcs.length) hlt)
      have HC := hid (HMF.out i hlt vb _ hrd hbl)
      obtain ⟨ba, bc, rfl, _⟩ := hbl.slice
      have hli : (i : Int) < p.funcs.length := by omega
      clear hi b0 b1 hbs hbl HMF HF
      generalize p.funcs[i] = x at *
      clear hlt
      generalize mayF p.types p.funcs.length x = ok at *
      generalize p.types.length = n1 at *
      have HRD := hid hrd
      have hrr := Aft.refl wr.drew
      go_upto_region 7 with fail
      go_region_held3 (fun w' => Aft W w' ∧ Aft wr.drew w') (first | exact ⟨HRD.out.go hb5, hrr.go hb5⟩ | exact ⟨HRD.out, hrr⟩) ((go_at_call 77; refine HC.out.mono ?_; rintro e w5 ⟨rfl, hb5⟩))
      have h5 := HRD.out.go hb5
      clear hb5 HC
      cases ok with
      | false =>
        have HANS : Hid (ans = 60) := by
          show _ = _
          have := HNO.out rfl
          rw [HD.out, if_neg this]
          split <;> rfl
        clear HNO HTK
        go_wp2
        go_ret
        exact ⟨by rw [HANS.out]; rfl, h5.out HBW.out⟩
      | true =>
        have HT2 := hid (HTK.out rfl)
        clear HTK HNO
        go_wp2
        go_roundg (gk - 1)
        case measure => have := HK.out; omega
        case rel => exact ⟨i + 1, by have := HK.out; omega, by go_num, HT2.out, h5⟩
    · obtain rfl : i = p.funcs.length := by omega
      have hall : p.funcs.all (mayF p.types p.funcs.length) = true := by
        have := HALL.out
        rwa [List.take_length] at this
      rw [if_pos hall] at HD
      clear hi HALL hall HMF HF hlt
      have HR := hid (hr.out HBW.out)
      generalize p.types.length = n1 at *
      generalize p.funcs.length = n2 at *
      by_cases hn1 : n2 < 1
      · rw [if_pos (Or.inl hn1)] at HD
        have hn3 : (n2 : Int) < 1 := by omega
        clear hn1
        go_wp2 <;> first | (exfalso; omega) | (go_ret; exact ⟨by rw [HD.out]; rfl, HR.out⟩)
      · have hn3 : ¬ (n2 : Int) < 1 := by omega
        by_cases hn8 : 8 < n2
        · rw [if_pos (Or.inr hn8)] at HD
          have hn4 : (8 : Int) < n2 := by omega
          clear hn1 hn8
          go_wp2 <;> first | (exfalso; omega) | (go_ret; exact ⟨by rw [HD.out]; rfl, HR.out⟩)
        · rw [if_neg (by omega)] at HD
          have hn4 : ¬ (8 : Int) < n2 := by omega
          clear hn1 hn8
          go_wp2 <;> first | (exfalso; omega) | (go_ret; exact ⟨by rw [HD.out]; rfl, HR.out⟩)

end Go.Proofs.YtkohdofbjoomjaaGreatDoor.ShRG
