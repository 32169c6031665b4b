/- Walks over shape.Same and what it calls. -/
import Derived.Test.YtbebficgcemkoaaGreatDoorZShBToShU
import Derived.Test.YtbebficgcemkoaaGreatDoorZTyEToTyQ
namespace Go.Proofs.YtbebficgcemkoaaGreatDoor.ShD
open Go.RowKit Go.Lib Go.Shelf SetP IntO TyM TyP TyB TyQ ShM ShP ShA ShB ShQ


set_option maxRecDepth 100000 in
set_option maxHeartbeats 4000000 in
theorem sameIns_calls (x y : Ix) (xa xf ya yf : Value) (w : World) (hxa : IntsAt w xa x.args) (hxf : IntsAt w xf x.frm) (hya : IntsAt w ya y.args) (hyf : IntsAt w yf y.frm) :
    Calls Tryz.prog 83 #[ixV x xa xf, ixV y ya yf] w (BoolR (decide (x = y)) w) := by
  have hb0 := alloc2 w (.cells #[.int .u8 x.op, .int .i64 x.typ, .int .i64 x.a, .int .i64 x.b, .int .i64 x.n, xa, xf] 57) (.cells #[.int .u8 y.op, .int .i64 y.typ, .int .i64 y.a, .int .i64 y.b, .int .i64 y.n, ya, yf] 57)
  have HC := hid (equal_calls xa ya x.args y.args _ (hxa.below hb0) (hya.below hb0))
  have HC2 := hid (fun wx (hb : Below w.heap.size w wx) => equal_calls xf yf x.frm y.frm wx (hxf.below hb) (hyf.below hb))
  have HE := hid (@ix_eq x y)
  obtain ⟨xaa, xac, rfl, _⟩ := ints_slice hxa
  obtain ⟨xfa, xfc, rfl, _⟩ := ints_slice hxf
  obtain ⟨yaa, yac, rfl, _⟩ := ints_slice hya
  obtain ⟨yfa, yfc, rfl, _⟩ := ints_slice hyf
  clear hxa hxf hya hyf
  obtain ⟨xop, xty, xxa, xb, xn, xl, xm⟩ := x
  obtain ⟨yop, yty, yya, yb, yn, yl, ym⟩ := y
  simp only at *
  generalize xl.length = n1 at *
  generalize xm.length = n2 at *
  generalize yl.length = n3 at *
  generalize ym.length = n4 at *
  by_cases h0 : xop = yop
  rotate_left
  · rw [decide_eq_false (fun h => h0 (HE.out.1 h).1)]
    have hd : (xop == yop) = false := by simpa using h0
    clear HC HC2 HE h0
    go_enter Tryz.func83, Tryz.ntmps83
    go_wp2
    go_ret
    exact ⟨rfl, hb0⟩
  subst h0
  by_cases h1 : xty = yty
  rotate_left
  · rw [decide_eq_false (fun h => h1 (HE.out.1 h).2.1)]
    have hd : (xty == yty) = false := by simpa using h1
    clear HC HC2 HE h1
    go_enter Tryz.func83, Tryz.ntmps83
    go_wp2
    go_ret
    exact ⟨rfl, hb0⟩
  subst h1
  by_cases h2 : xxa = yya
  rotate_left
  · rw [decide_eq_false (fun h => h2 (HE.out.1 h).2.2.1)]
    have hd : (xxa == yya) = false := by simpa using h2
    clear HC HC2 HE h2
    go_enter Tryz.func83, Tryz.ntmps83
    go_wp2
    go_ret
    exact ⟨rfl, hb0⟩
  subst h2
  by_cases h3 : xb = yb
  rotate_left
  · rw [decide_eq_false (fun h => h3 (HE.out.1 h).2.2.2.1)]
    have hd : (xb == yb) = false := by simpa using h3
    clear HC HC2 HE h3
    go_enter Tryz.func83, Tryz.ntmps83
    go_wp2
    go_ret
    exact ⟨rfl, hb0⟩
  subst h3
  by_cases h4 : xn = yn
  rotate_left
  · rw [decide_eq_false (fun h => h4 (HE.out.1 h).2.2.2.2.1)]
    have hd : (xn == yn) = false := by simpa using h4
    clear HC HC2 HE h4
    go_enter Tryz.func83, Tryz.ntmps83
    go_wp2
    go_ret
    exact ⟨rfl, hb0⟩
  subst h4
  cases hq : decide (xl = yl) with
  | false =>
    rw [hq] at HC
    rw [decide_eq_false (fun h => (of_decide_eq_false hq) (HE.out.1 h).2.2.2.2.2.1)]
    clear hq HC2 HE
    go_enter Tryz.func83, Tryz.ntmps83
    go_wp2_with fail
    refine HC.out.mono ?_
    rintro e w1 ⟨rfl, hb1⟩
    have hbe := hb0.trans (hb1.mono hb0.size)
    clear HC hb1
    go_wp2
    go_ret
    exact ⟨rfl, hbe⟩
  | true =>
    rw [hq] at HC
    have hdd : decide ((⟨xop, xty, xxa, xb, xn, xl, xm⟩ : Ix) = ⟨xop, xty, xxa, xb, xn, yl, ym⟩) = decide (xm = ym) := by
      rw [Bool.eq_iff_iff, decide_eq_true_iff, decide_eq_true_iff, HE.out]
      exact ⟨fun h => h.2.2.2.2.2.2, fun h => ⟨rfl, rfl, rfl, rfl, rfl, of_decide_eq_true hq, h⟩⟩
    rw [hdd]
    clear hdd hq HE
    generalize decide (xm = ym) = bb at *
    go_enter Tryz.func83, Tryz.ntmps83
    go_wp2_with fail
    refine HC.out.mono ?_
    rintro e w1 ⟨rfl, hb1⟩
    have hbe := hb0.trans (hb1.mono hb0.size)
    have HC3 := hid (HC2.out w1 hbe)
    obtain ⟨f1, _, _, _⟩ := copyF (alloc_old (alloc_new _ _) _) hb1 (by simp only [World.size_alloc]; omega)
    obtain ⟨f2, _, _, _⟩ := copyF (alloc_new _ _) hb1 (by simp only [World.size_alloc]; omega)
    have d1 := f1 6 (by simp)
    have d2 := f2 6 (by simp)
    simp only [List.getElem_toArray, List.getElem_cons_succ, List.getElem_cons_zero, World.size_alloc] at d1 d2
    clear HC hb1 f1 f2 HC2
    go_wp2_with fail
    refine HC3.out.mono ?_
    rintro e w2 ⟨rfl, hb2⟩
    have hbe2 := hbe.trans (hb2.mono hbe.size)
    clear HC3 hb2
    go_wp2
    go_ret
    exact ⟨rfl, hbe2⟩


set_option maxRecDepth 100000 in
set_option maxHeartbeats 4000000 in
theorem equalI_calls (va vb : Value) (a b : List Ix) (w : World) (ha : InsAt w va a) (hb : InsAt w vb b) :
    Calls Tryz.prog 82 #[va, vb, .func (.func 83) #[] #[]] w (BoolR (decide (a = b)) w) := by
  have HA := hid ha
  have HB := hid hb
  obtain ⟨ao, ac, rfl, hla⟩ := ha.slice
  obtain ⟨bo, bc, rfl, _⟩ := hb.slice
  clear ha hb
  by_cases hlen : a.length = b.length
  · have HL := hid hlen
    have HPA := hid (pre_all (a := a) (b := b) hlen)
    rw [← hlen]
    rw [← hlen] at HB
    clear hlen
    go_enter Tryz.func82, Tryz.ntmps82
    go_wp2
    go_loopg [17] a.length (fun gk i wr => ∃ k : Nat, k + gk = a.length ∧ i = .int .i64 k ∧ Pre a b k ∧ Below w.heap.size w wr)
    case atStart => exact ⟨0, by omega, rfl, rfl, Below.refl _ _⟩
    case round =>
      obtain ⟨k, hk, rfl, hpre, hbe⟩ := hrel
      have HK := hid hk
      have HPRE := hid hpre
      clear hpre
      by_cases hlt : k < a.length
      · have hltb : k < b.length := by rw [← HL.out]; exact hlt
        obtain ⟨ab, aoff, rfl, ha0, xa, xf, a0, a1, a2, a3, a4, a5, a6, hxa, hxf⟩ := (HA.out.below insStays hbe).at k hlt
        obtain ⟨bb, boff, rfl, hb0, ya, yf, b0, b1, b2, b3, b4, b5, b6, hya, hyf⟩ := (HB.out.below insStays hbe).at k hltb
        have HE := hid (pre_succ hlt hltb HPRE.out)
        have HN := hid (ne_at hlt hltb)
        have hsz := hbe.size
        clear hk
        generalize a[k] = x at *
        generalize b[k] = y at *
        have hb2 := alloc2 wr (.cells #[.int .u8 x.op, .int .i64 x.typ, .int .i64 x.a, .int .i64 x.b, .int .i64 x.n, xa, xf] 57) (.cells #[.int .u8 y.op, .int .i64 y.typ, .int .i64 y.a, .int .i64 y.b, .int .i64 y.n, ya, yf] 57)
        have HC := hid (sameIns_calls x y xa xf ya yf _ (hxa.below hb2) (hxf.below hb2) (hya.below hb2) (hyf.below hb2))
        have hbe2 := hbe.trans (hb2.mono hbe.size)
        obtain ⟨q1, q2, rfl, _⟩ := ints_slice hxa
        obtain ⟨q3, q4, rfl, _⟩ := ints_slice hxf
        obtain ⟨q5, q6, rfl, _⟩ := ints_slice hya
        obtain ⟨q7, q8, rfl, _⟩ := ints_slice hyf
        clear hxa hxf hya hyf hb2
        by_cases hxy : x = y
        · rw [decide_eq_true hxy] at HC
          have HE2 := hid (HE.out hxy)
          clear hxy HE HN
          go_wp2_with fail
          refine HC.out.mono ?_
          rintro e w1 ⟨rfl, hb1⟩
          have hbe3 := hbe2.trans (hb1.mono hbe2.size)
          clear hb1 HC
          go_wp2
          go_roundg (gk - 1)
          case measure => have := HK.out; omega
          case rel => exact ⟨k + 1, by have := HK.out; omega, by go_num, HE2.out, hbe3⟩
        · rw [decide_eq_false hxy] at HC
          have HNE := hid (HN.out hxy)
          clear hxy HE HN
          go_wp2_with fail
          refine HC.out.mono ?_
          rintro e w1 ⟨rfl, hb1⟩
          have hbe3 := hbe2.trans (hb1.mono hbe2.size)
          clear hb1 HC
          go_wp2
          go_ret
          exact ⟨by rw [decide_eq_false HNE.out]; rfl, hbe3⟩
      · obtain rfl : k = a.length := by omega
        have HEQ := hid (HPA.out HPRE.out)
        clear hk
        generalize a.length = n at *
        go_wp2
        go_ret
        exact ⟨by rw [decide_eq_true HEQ.out]; rfl, hbe⟩
  · have hne : a ≠ b := fun e => hlen (by rw [e])
    rw [decide_eq_false hne]
    have hd : ((a.length : Int) != (b.length : Int)) = true := by simp; omega
    clear hne hlen
    generalize a.length = n at *
    generalize b.length = m at *
    go_enter Tryz.func82, Tryz.ntmps82
    go_wp2
    go_ret
    exact ⟨rfl, Below.refl _ _⟩


set_option maxRecDepth 100000 in
set_option maxHeartbeats 4000000 in
theorem sameB_calls (x y : Bx) (xi yi : Value) (w : World) (hx : InsAt w xi x.ins) (hy : InsAt w yi y.ins) :
    Calls Tryz.prog 81 #[bxV x xi, bxV y yi] w (BoolR (decide (x = y)) w) := by
  have hb0 := alloc2 w (.cells #[xi, .int .u8 x.en.kind, .int .i64 x.en.a, .int .i64 x.en.to, .int .i64 x.en.els] 54) (.cells #[yi, .int .u8 y.en.kind, .int .i64 y.en.a, .int .i64 y.en.to, .int .i64 y.en.els] 54)
  have HC := hid (equalI_calls xi yi x.ins y.ins _ (hx.below insStays hb0) (hy.below insStays hb0))
  have hq := fun w => eql_ex x.en.kind x.en.a x.en.to x.en.els y.en.kind y.en.a y.en.to y.en.els w
  rw [ex_dec] at hq
  have HE := hid (@bx_eq x y)
  obtain ⟨xa, xc, rfl, _⟩ := hx.slice
  obtain ⟨ya, yc, rfl, _⟩ := hy.slice
  clear hx hy
  cases he : decide (x.en = y.en) with
  | false =>
    rw [he] at hq
    rw [decide_eq_false (fun h => (of_decide_eq_false he) (HE.out.1 h).2)]
    clear HC HE he
    obtain ⟨xn, xk, xxa, xt, xe⟩ := x
    obtain ⟨yn, yk, yya, yt, ye⟩ := y
    simp only at *
    go_enter Tryz.func81, Tryz.ntmps81
    go_wp2
    go_ret
    exact ⟨rfl, hb0⟩
  | true =>
    rw [he] at hq
    have hdd : decide (x = y) = decide (x.ins = y.ins) := by
      rw [Bool.eq_iff_iff, decide_eq_true_iff, decide_eq_true_iff, HE.out]
      exact ⟨fun h => h.1, fun h => ⟨h, of_decide_eq_true he⟩⟩
    rw [hdd]
    clear HE he hdd
    obtain ⟨xn, xk, xxa, xt, xe⟩ := x
    obtain ⟨yn, yk, yya, yt, ye⟩ := y
    simp only at *
    generalize decide (xn = yn) = bb at *
    go_enter Tryz.func81, Tryz.ntmps81
    go_wp2_with fail
    refine HC.out.mono ?_
    rintro e w1 ⟨rfl, hb1⟩
    have hbe := hb0.trans (hb1.mono hb0.size)
    clear HC hb1
    go_wp2
    go_ret
    exact ⟨rfl, hbe⟩


set_option maxRecDepth 100000 in
set_option maxHeartbeats 4000000 in
theorem equalB_calls (va vb : Value) (a b : List Bx) (w : World) (ha : BlksAt w va a) (hb : BlksAt w vb b) :
    Calls Tryz.prog 80 #[va, vb, .func (.func 81) #[] #[]] w (BoolR (decide (a = b)) w) := by
  have HA := hid ha
  have HB := hid hb
  obtain ⟨ao, ac, rfl, hla⟩ := ha.slice
  obtain ⟨bo, bc, rfl, _⟩ := hb.slice
  clear ha hb
  by_cases hlen : a.length = b.length
  · have HL := hid hlen
    have HPA := hid (pre_all (a := a) (b := b) hlen)
    rw [← hlen]
    rw [← hlen] at HB
    clear hlen
    go_enter Tryz.func80, Tryz.ntmps80
    go_wp2
    go_loopg [17] a.length (fun gk i wr => ∃ k : Nat, k + gk = a.length ∧ i = .int .i64 k ∧ Pre a b k ∧ Below w.heap.size w wr)
    case atStart => exact ⟨0, by omega, rfl, rfl, Below.refl _ _⟩
    case round =>
      obtain ⟨k, hk, rfl, hpre, hbe⟩ := hrel
      have HK := hid hk
      have HPRE := hid hpre
      clear hpre
      by_cases hlt : k < a.length
      · have hltb : k < b.length := by rw [← HL.out]; exact hlt
        obtain ⟨ab, aoff, rfl, ha0, xi, a0, a1, a2, a3, a4, hxi⟩ := (HA.out.below blkStays hbe).at k hlt
        obtain ⟨bb, boff, rfl, hb0, yi, b0, b1, b2, b3, b4, hyi⟩ := (HB.out.below blkStays hbe).at k hltb
        have HE := hid (pre_succ hlt hltb HPRE.out)
        have HN := hid (ne_at hlt hltb)
        have hsz := hbe.size
        clear hk
        generalize a[k] = x at *
        generalize b[k] = y at *
        have hb2 := alloc2 wr (.cells #[xi, .int .u8 x.en.kind, .int .i64 x.en.a, .int .i64 x.en.to, .int .i64 x.en.els] 54) (.cells #[yi, .int .u8 y.en.kind, .int .i64 y.en.a, .int .i64 y.en.to, .int .i64 y.en.els] 54)
        have HC := hid (sameB_calls x y xi yi _ (hxi.below insStays hb2) (hyi.below insStays hb2))
        have hbe2 := hbe.trans (hb2.mono hbe.size)
        obtain ⟨q1, q2, rfl, _⟩ := hxi.slice
        obtain ⟨q3, q4, rfl, _⟩ := hyi.slice
        clear hxi hyi hb2
        by_cases hxy : x = y
        · rw [decide_eq_true hxy] at HC
          have HE2 := hid (HE.out hxy)
          clear hxy HE HN
          go_wp2_with fail
          refine HC.out.mono ?_
          rintro e w1 ⟨rfl, hb1⟩
          have hbe3 := hbe2.trans (hb1.mono hbe2.size)
          clear hb1 HC
          go_wp2
          go_roundg (gk - 1)
          case measure => have := HK.out; omega
          case rel => exact ⟨k + 1, by have := HK.out; omega, by go_num, HE2.out, hbe3⟩
        · rw [decide_eq_false hxy] at HC
          have HNE := hid (HN.out hxy)
          clear hxy HE HN
          go_wp2_with fail
          refine HC.out.mono ?_
          rintro e w1 ⟨rfl, hb1⟩
          have hbe3 := hbe2.trans (hb1.mono hbe2.size)
          clear hb1 HC
          go_wp2
          go_ret
          exact ⟨by rw [decide_eq_false HNE.out]; rfl, hbe3⟩
      · obtain rfl : k = a.length := by omega
        have HEQ := hid (HPA.out HPRE.out)
        clear hk
        generalize a.length = n at *
        go_wp2
        go_ret
        exact ⟨by rw [decide_eq_true HEQ.out]; rfl, hbe⟩
  · have hne : a ≠ b := fun e => hlen (by rw [e])
    rw [decide_eq_false hne]
    have hd : ((a.length : Int) != (b.length : Int)) = true := by simp; omega
    clear hne hlen
    generalize a.length = n at *
    generalize b.length = m at *
    go_enter Tryz.func80, Tryz.ntmps80
    go_wp2
    go_ret
    exact ⟨rfl, Below.refl _ _⟩


set_option maxRecDepth 100000 in
set_option maxHeartbeats 4000000 in
theorem sameF_calls (x y : Fx) (xi yi : Value) (w : World) (hx : BlksAt w xi x.blocks) (hy : BlksAt w yi y.blocks) :
    Calls Tryz.prog 38 #[fxV x xi, fxV y yi] w (BoolR (decide (x = y)) w) := by
  have hb0 := alloc2 w (.cells #[.int .i64 x.sig, xi] 49) (.cells #[.int .i64 y.sig, yi] 49)
  have HC := hid (equalB_calls xi yi x.blocks y.blocks _ (hx.below blkStays hb0) (hy.below blkStays hb0))
  have HE := hid (@fx_eq x y)
  obtain ⟨xa, xc, rfl, _⟩ := hx.slice
  obtain ⟨ya, yc, rfl, _⟩ := hy.slice
  clear hx hy
  by_cases hs : x.sig = y.sig
  · have hdd : decide (x = y) = decide (x.blocks = y.blocks) := by
      rw [Bool.eq_iff_iff, decide_eq_true_iff, decide_eq_true_iff, HE.out]
      exact ⟨fun h => h.2, fun h => ⟨hs, h⟩⟩
    rw [hdd]
    clear HE hdd
    obtain ⟨xs, xb⟩ := x
    obtain ⟨ys, yb⟩ := y
    simp only at *
    subst hs
    generalize decide (xb = yb) = bb at *
    go_enter Tryz.func38, Tryz.ntmps38
    go_wp2_with fail
    refine HC.out.mono ?_
    rintro e w1 ⟨rfl, hb1⟩
    have hbe := hb0.trans (hb1.mono hb0.size)
    clear HC hb1
    go_wp2
    go_ret
    exact ⟨rfl, hbe⟩
  · rw [decide_eq_false (fun h => hs (HE.out.1 h).1)]
    clear HC HE
    obtain ⟨xs, xb⟩ := x
    obtain ⟨ys, yb⟩ := y
    simp only at *
    have hd : (xs == ys) = false := by simpa using hs
    clear hs
    go_enter Tryz.func38, Tryz.ntmps38
    go_wp2
    go_ret
    exact ⟨rfl, hb0⟩


set_option maxRecDepth 100000 in
set_option maxHeartbeats 4000000 in
theorem equalF_calls (va vb : Value) (a b : List Fx) (w : World) (ha : FnsAt w va a) (hb : FnsAt w vb b) :
    Calls Tryz.prog 37 #[va, vb, .func (.func 38) #[] #[]] w (BoolR (decide (a = b)) w) := by
  have HA := hid ha
  have HB := hid hb
  obtain ⟨ao, ac, rfl, hla⟩ := ha.slice
  obtain ⟨bo, bc, rfl, _⟩ := hb.slice
  clear ha hb
  by_cases hlen : a.length = b.length
  · have HL := hid hlen
    have HPA := hid (pre_all (a := a) (b := b) hlen)
    rw [← hlen]
    rw [← hlen] at HB
    clear hlen
    go_enter Tryz.func37, Tryz.ntmps37
    go_wp2
    go_loopg [17] a.length (fun gk i wr => ∃ k : Nat, k + gk = a.length ∧ i = .int .i64 k ∧ Pre a b k ∧ Below w.heap.size w wr)
    case atStart => exact ⟨0, by omega, rfl, rfl, Below.refl _ _⟩
    case round =>
      obtain ⟨k, hk, rfl, hpre, hbe⟩ := hrel
      have HK := hid hk
      have HPRE := hid hpre
      clear hpre
      by_cases hlt : k < a.length
      · have hltb : k < b.length := by rw [← HL.out]; exact hlt
        obtain ⟨ab, aoff, rfl, ha0, xi, a0, a1, hxi⟩ := (HA.out.below fnStays hbe).at k hlt
        obtain ⟨bb, boff, rfl, hb0, yi, b0, b1, hyi⟩ := (HB.out.below fnStays hbe).at k hltb
        have HE := hid (pre_succ hlt hltb HPRE.out)
        have HN := hid (ne_at hlt hltb)
        have hsz := hbe.size
        clear hk
        generalize a[k] = x at *
        generalize b[k] = y at *
        have hb2 := alloc2 wr (.cells #[.int .i64 x.sig, xi] 49) (.cells #[.int .i64 y.sig, yi] 49)
        have HC := hid (sameF_calls x y xi yi _ (hxi.below blkStays hb2) (hyi.below blkStays hb2))
        have hbe2 := hbe.trans (hb2.mono hbe.size)
        obtain ⟨q1, q2, rfl, _⟩ := hxi.slice
        obtain ⟨q3, q4, rfl, _⟩ := hyi.slice
        clear hxi hyi hb2
        by_cases hxy : x = y
        · rw [decide_eq_true hxy] at HC
          have HE2 := hid (HE.out hxy)
          clear hxy HE HN
          go_wp2_with fail
          refine HC.out.mono ?_
          rintro e w1 ⟨rfl, hb1⟩
          have hbe3 := hbe2.trans (hb1.mono hbe2.size)
          clear hb1 HC
          go_wp2
          go_roundg (gk - 1)
          case measure => have := HK.out; omega
          case rel => exact ⟨k + 1, by have := HK.out; omega, by go_num, HE2.out, hbe3⟩
        · rw [decide_eq_false hxy] at HC
          have HNE := hid (HN.out hxy)
          clear hxy HE HN
          go_wp2_with fail
          refine HC.out.mono ?_
          rintro e w1 ⟨rfl, hb1⟩
          have hbe3 := hbe2.trans (hb1.mono hbe2.size)
          clear hb1 HC
          go_wp2
          go_ret
          exact ⟨by rw [decide_eq_false HNE.out]; rfl, hbe3⟩
      · obtain rfl : k = a.length := by omega
        have HEQ := hid (HPA.out HPRE.out)
        clear hk
        generalize a.length = n at *
        go_wp2
        go_ret
        exact ⟨by rw [decide_eq_true HEQ.out]; rfl, hbe⟩
  · have hne : a ≠ b := fun e => hlen (by rw [e])
    rw [decide_eq_false hne]
    have hd : ((a.length : Int) != (b.length : Int)) = true := by simp; omega
    clear hne hlen
    generalize a.length = n at *
    generalize b.length = m at *
    go_enter Tryz.func37, Tryz.ntmps37
    go_wp2
    go_ret
    exact ⟨rfl, Below.refl _ _⟩


set_option maxRecDepth 100000 in
set_option maxHeartbeats 4000000 in
theorem same_calls (v u : Value) (x y : Px) (w : World) (hx : PrAt w v x) (hy : PrAt w u y) :
    Calls Tryz.prog 20 #[v, u] w (BoolR (decide (x = y)) w) := by
  obtain ⟨xt, xf, rfl, hxt, hxf⟩ := hx
  obtain ⟨yt, yf, rfl, hyt, hyf⟩ := hy
  have hb0 := alloc2 w (.cells #[xt, xf] 28) (.cells #[yt, yf] 28)
  have HC := hid (TyQ.same_calls xt yt x.types y.types _ (hxt.below hb0) (hyt.below hb0))
  have HC2 := hid (fun wx (hb : Below w.heap.size w wx) => equalF_calls xf yf x.funcs y.funcs wx (hxf.below fnStays hb) (hyf.below fnStays hb))
  have HE := hid (@px_eq x y)
  obtain ⟨xta, xtc, rfl⟩ := hxt.slice
  obtain ⟨yta, ytc, rfl⟩ := hyt.slice
  obtain ⟨xfa, xfc, rfl, _⟩ := hxf.slice
  obtain ⟨yfa, yfc, rfl, _⟩ := hyf.slice
  clear hxt hyt hxf hyf
  obtain ⟨xts, xfs⟩ := x
  obtain ⟨yts, yfs⟩ := y
  simp only at *
  generalize xts.length = n1 at *
  generalize yts.length = n2 at *
  generalize xfs.length = n3 at *
  generalize yfs.length = n4 at *
  cases hq : decide (xts = yts) with
  | false =>
    rw [hq] at HC
    rw [decide_eq_false (fun h => (of_decide_eq_false hq) (HE.out.1 h).1)]
    clear hq HE HC2
    go_enter Tryz.func20, Tryz.ntmps20
    go_wp2_with fail
    refine HC.out.mono ?_
    rintro e w1 ⟨rfl, hb1⟩
    have hbe := hb0.trans (hb1.mono hb0.size)
    clear HC hb1
    go_wp2
    go_ret
    exact ⟨rfl, hbe⟩
  | true =>
    rw [hq] at HC
    have hdd : decide ((⟨xts, xfs⟩ : Px) = ⟨yts, yfs⟩) = decide (xfs = yfs) := by
      rw [Bool.eq_iff_iff, decide_eq_true_iff, decide_eq_true_iff, HE.out]
      exact ⟨fun h => h.2, fun h => ⟨of_decide_eq_true hq, h⟩⟩
    rw [hdd]
    clear hdd hq HE
    generalize decide (xfs = yfs) = bb at *
    go_enter Tryz.func20, Tryz.ntmps20
    go_wp2_with fail
    refine HC.out.mono ?_
    rintro e w1 ⟨rfl, hb1⟩
    have hbe := hb0.trans (hb1.mono hb0.size)
    have HC3 := hid (HC2.out w1 hbe)
    obtain ⟨f1, _, _, _⟩ := copyF (alloc_old (alloc_new _ _) _) hb1 (by simp only [World.size_alloc]; omega)
    obtain ⟨f2, _, _, _⟩ := copyF (alloc_new _ _) hb1 (by simp only [World.size_alloc]; omega)
    have d1 := f1 1 (by simp)
    have d2 := f2 1 (by simp)
    simp only [List.getElem_toArray, List.getElem_cons_succ, List.getElem_cons_zero, World.size_alloc] at d1 d2
    clear HC hb1 f1 f2 HC2
    go_wp2_with fail
    refine HC3.out.mono ?_
    rintro e w2 ⟨rfl, hb2⟩
    have hbe2 := hbe.trans (hb2.mono hbe.size)
    clear HC3 hb2
    go_wp2
    go_ret
    exact ⟨rfl, hbe2⟩
end Go.Proofs.YtbebficgcemkoaaGreatDoor.ShD
