/- Walk over the reference's sameIns. Walks over the reference's sameBlocks, Same. -/
import Derived.Test.YtkohdofbjoomjaaGreatDoorZShBToShV
import Derived.Test.YtkohdofbjoomjaaGreatDoorZTyREToTyREG
import Derived.Test.YtkohdofbjoomjaaGreatDoorZIntOToAft
import Derived.Test.YtkohdofbjoomjaaGreatDoorZRwHToShTB
import Derived.Deep.Cut
import Derived.Deep.DeepCutAuto
import Derived.Deep.RegionHeld3
import Derived.Deep.QuietTactic
import Derived.BigQuiet
import Derived.WalkSmall
namespace Go.Proofs.YtkohdofbjoomjaaGreatDoor.ShRS
open Go.RowKit Go.Lib SetP IntO TyM TyP TyB TyQ TyRE ShM ShP ShA ShB ShQ ShTB Aft

/-- the two, each in a block of its own -/
def TwoIx (W : World) (n6 n7 : Nat) (x y : Ix) (xa xf ya yf : Value) (wc : World) : Prop := wc.heap[n6]? = some (.cells #[.int .u8 x.op, .int .i64 x.typ, .int .i64 x.a, .int .i64 x.b, .int .i64 x.n, xa, xf] 60 (0, 0)) ∧ wc.heap[n7]? = some (.cells #[.int .u8 y.op, .int .i64 y.typ, .int .i64 y.a, .int .i64 y.b, .int .i64 y.n, ya, yf] 60 (0, 0)) ∧ Aft W wc

theorem alloc_at (w : World) (o : Obj) (n : Nat) (h : w.heap.size = n) : (w.alloc o).heap[n]? = some o := by subst h; exact alloc_new w o

set_option maxRecDepth 100000 in
set_option maxHeartbeats 8000000 in
theorem sameInsR_calls (va vb : Value) (a b : List Ix) (w : World) (ha : InsAt w va a) (hb : InsAt w vb b) :
    Calls Tryz.prog 45 #[va, vb] w (BoolR (decide (a = b)) w) := by
  have HA := hid ha
  have HB := hid hb
  obtain ⟨ao, ac, rfl, hla⟩ := ha.slice
  obtain ⟨bo, bc, rfl, _⟩ := hb.slice
  clear ha hb
  by_cases hlen : a.length = b.length
  rotate_left
  · have hne : a ≠ b := fun e => hlen (by rw [e])
    rw [decide_eq_false hne]
    have hd : ((a.length : Int) != (b.length : Int)) = true := by simp; omega
    clear hne hlen
    generalize a.length = n at *
    generalize b.length = m at *
    go_enter Tryz.func45, Tryz.ntmps45
    go_wp2
    go_ret
    exact ⟨rfl, Below.refl _ _⟩
  have HL := hid hlen
  have HPA := hid (pre_all (a := a) (b := b) hlen)
  have HNL : Hid (b.length = a.length) := hlen.symm
  rw [← hlen]
  rw [← hlen] at HB
  clear hlen
  go_enter Tryz.func45, Tryz.ntmps45
  go_wp2
  go_loopg [5] a.length (fun gk i wr => ∃ k : Nat, k + gk = a.length ∧ i = .int .i64 k ∧ Pre a b k ∧ Aft w wr)
  case atStart => exact ⟨0, by omega, rfl, rfl, Aft.refl _⟩
  case round =>
    obtain ⟨k, hk, rfl, hpre, hr⟩ := hrel
    have HK := hid hk
    have HPRE := hid hpre
    clear hpre
    by_cases hlt : k < a.length
    rotate_left
    · obtain rfl : k = a.length := by omega
      have HEQ := hid (HPA.out HPRE.out)
      clear hk
      generalize a.length = n at *
      go_wp2
      go_ret
      exact ⟨by rw [decide_eq_true HEQ.out]; rfl, hr.below⟩
    have hltb : k < b.length := by rw [HNL.out]; exact hlt
    obtain ⟨ab, aoff, rfl, ha0, xa, xf, a0, a1, a2, a3, a4, a5, a6, hxa, hxf⟩ := (HA.out.below insStays hr.below).at k hlt
    obtain ⟨bb, boff, rfl, hb0, ya, yf, b0, b1, b2, b3, b4, b5, b6, hya, hyf⟩ := (HB.out.below insStays hr.below).at k hltb
    have HE := hid (pre_succ hlt hltb HPRE.out)
    have HN := hid (ne_at hlt hltb)
    have HRW := hid hr
    clear hk hr
    generalize a[k] = x at *
    generalize b[k] = y at *
    have HXA := hid hxa
    have HXF := hid hxf
    have HYA := hid hya
    have HYF := hid hyf
    obtain ⟨q1, q2, rfl, _⟩ := ints_slice hxa
    obtain ⟨q3, q4, rfl, _⟩ := ints_slice hxf
    obtain ⟨q5, q6, rfl, _⟩ := ints_slice hya
    obtain ⟨q7, q8, rfl, _⟩ := ints_slice hyf
    clear hxa hxf hya hyf
    go_upto_region 6 with fail
    go_cut [6, 7] (fun u v wc => ∃ n6 n7, u = .pointer (some ⟨n6, 0, none⟩) ∧ v = .pointer (some ⟨n7, 0, none⟩) ∧ TwoIx wr n6 n7 x y (.slice q1 x.args.length q2) (.slice q3 x.frm.length q4) (.slice q5 y.args.length q6) (.slice q7 y.frm.length q8) wc)
    case first =>
      go_region
      all_goals
        go_wp2
        go_meet
        case rel => exact ⟨_, _, rfl, rfl, by first | exact alloc_old (alloc_new _ _) _ | exact alloc_at _ _ _ (World.size_alloc _ _), by first | exact alloc_old (alloc_new _ _) _ | exact alloc_at _ _ _ (World.size_alloc _ _), (((Aft.refl _).alloc _).alloc _).drew⟩
    case rest =>
    obtain ⟨n6, n7, rfl, rfl, hx6, hy7, hrc⟩ := hcut
    have c0 := later_cells hx6 0 _ rfl; have c1 := later_cells hx6 1 _ rfl; have c2 := later_cells hx6 2 _ rfl; have c3 := later_cells hx6 3 _ rfl; have c4 := later_cells hx6 4 _ rfl; have c5 := later_cells hx6 5 _ rfl; have c6 := later_cells hx6 6 _ rfl
    have d0 := later_cells hy7 0 _ rfl; have d1 := later_cells hy7 1 _ rfl; have d2 := later_cells hy7 2 _ rfl; have d3 := later_cells hy7 3 _ rfl; have d4 := later_cells hy7 4 _ rfl; have d5 := later_cells hy7 5 _ rfl; have d6 := later_cells hy7 6 _ rfl
    have HC := hid (fun wx (h : Aft wr wx) => sameInts_calls _ _ x.args y.args wx (HXA.out.below h.below) (HYA.out.below h.below))
    have HC2 := hid (fun wx (h : Aft wr wx) => sameInts_calls _ _ x.frm y.frm wx (HXF.out.below h.below) (HYF.out.below h.below))
    have HEX := hid (@ix_eq x y)
    have HRC := hid hrc
    have h0 := Aft.refl wc
    clear hx6 hy7 a0 a1 a2 a3 a4 a5 a6 b0 b1 b2 b3 b4 b5 b6 hrc HXA HXF HYA HYF
    obtain ⟨xop, xty, xxa, xb, xn, xl, xm⟩ := x
    obtain ⟨yop, yty, yya, yb, yn, yl, ym⟩ := y
    simp only at *
    generalize xl.length = l1 at *
    generalize xm.length = l2 at *
    generalize yl.length = l3 at *
    generalize ym.length = l4 at *
    cases e0 : (xop != yop) with
    | true =>
      have HNE := hid (HN.out (fun h => by have := (HEX.out.1 h).1; simp at e0; exact e0 this))
      clear HE HN HC HC2 HEX
      go_wp2
      go_ret
      exact ⟨by rw [decide_eq_false HNE.out]; rfl, (HRW.out.trans HRC.out).below⟩
    | false =>
    cases e1 : (xty != yty) with
    | true =>
      have HNE := hid (HN.out (fun h => by have := (HEX.out.1 h).2.1; simp at e1; exact e1 this))
      clear HE HN HC HC2 HEX
      go_wp2
      go_ret
      exact ⟨by rw [decide_eq_false HNE.out]; rfl, (HRW.out.trans HRC.out).below⟩
    | false =>
    cases e2 : (xxa != yya) with
    | true =>
      have HNE := hid (HN.out (fun h => by have := (HEX.out.1 h).2.2.1; simp at e2; exact e2 this))
      clear HE HN HC HC2 HEX
      go_wp2
      go_ret
      exact ⟨by rw [decide_eq_false HNE.out]; rfl, (HRW.out.trans HRC.out).below⟩
    | false =>
    cases e3 : (xb != yb) with
    | true =>
      have HNE := hid (HN.out (fun h => by have := (HEX.out.1 h).2.2.2.1; simp at e3; exact e3 this))
      clear HE HN HC HC2 HEX
      go_wp2
      go_ret
      exact ⟨by rw [decide_eq_false HNE.out]; rfl, (HRW.out.trans HRC.out).below⟩
    | false =>
    cases e4 : (xn != yn) with
    | true =>
      have HNE := hid (HN.out (fun h => by have := (HEX.out.1 h).2.2.2.2.1; simp at e4; exact e4 this))
      clear HE HN HC HC2 HEX
      go_wp2
      go_ret
      exact ⟨by rw [decide_eq_false HNE.out]; rfl, (HRW.out.trans HRC.out).below⟩
    | false =>
    have HC1 := hid (HC.out wc HRC.out)
    clear HC
    cases hq : decide (xl = yl) with
    | false =>
      rw [hq] at HC1
      have HNE := hid (HN.out (fun h => (of_decide_eq_false hq) (HEX.out.1 h).2.2.2.2.2.1))
      clear HE HN HC2 HEX hq
      go_wp2_with fail
      refine HC1.out.mono ?_
      rintro e w1 ⟨rfl, hb1⟩
      have h1 := h0.go hb1
      clear hb1 HC1
      go_wp2
      go_ret
      exact ⟨by rw [decide_eq_false HNE.out]; rfl, (HRW.out.trans (HRC.out.trans h1)).below⟩
    | true =>
    rw [hq] at HC1
    cases hq2 : decide (xm = ym) with
    | false =>
      rw [hq2] at HC2
      have HNE := hid (HN.out (fun h => (of_decide_eq_false hq2) (HEX.out.1 h).2.2.2.2.2.2))
      clear HE HN HEX hq hq2
      go_wp2_with fail
      refine HC1.out.mono ?_
      rintro e w1 ⟨rfl, hb1⟩
      have h1 := h0.go hb1
      have HC3 := hid (HC2.out w1 (HRC.out.trans h1))
      clear hb1 HC1 HC2
      go_wp2_with fail
      refine HC3.out.mono ?_
      rintro e w2 ⟨rfl, hb2⟩
      have h2 := h1.go hb2
      clear hb2 HC3
      go_wp2
      go_ret
      exact ⟨by rw [decide_eq_false HNE.out]; rfl, (HRW.out.trans (HRC.out.trans h2)).below⟩
    | true =>
    rw [hq2] at HC2
    have HEQ := hid (HE.out (HEX.out.2 ⟨by simpa using e0, by simpa using e1, by simpa using e2, by simpa using e3, by simpa using e4, of_decide_eq_true hq, of_decide_eq_true hq2⟩))
    clear HE HN HEX hq hq2
    go_wp2_with fail
    refine HC1.out.mono ?_
    rintro e w1 ⟨rfl, hb1⟩
    have h1 := h0.go hb1
    have HC3 := hid (HC2.out w1 (HRC.out.trans h1))
    clear hb1 HC1 HC2
    go_wp2_with fail
    refine HC3.out.mono ?_
    rintro e w2 ⟨rfl, hb2⟩
    have h2 := h1.go hb2
    have hfin := HRW.out.trans (HRC.out.trans h2)
    clear hb2 HC3
    go_wp2
    go_roundg (gk - 1)
    case measure => have := HK.out; omega
    case rel => exact ⟨k + 1, by have := HK.out; omega, by go_num, HEQ.out, hfin⟩
end Go.Proofs.YtkohdofbjoomjaaGreatDoor.ShRS

namespace Go.Proofs.YtkohdofbjoomjaaGreatDoor.ShRJ
open Go.RowKit Go.Lib SetP IntO TyM TyP TyB TyQ TyRE ShM ShP ShA ShB ShQ ShD ShTB ShRS Aft

set_option maxRecDepth 100000 in
set_option maxHeartbeats 8000000 in
theorem sameBlocksR_calls (va vb : Value) (a b : List Bx) (w : World) (ha : BlksAt w va a) (hb : BlksAt w vb b) :
    Calls Tryz.prog 30 #[va, vb] w (BoolR (decide (a = b)) w) := by
  have HA := hid ha
  have HB := hid hb
  obtain ⟨ao, ac, rfl, hla⟩ := ha.slice
  obtain ⟨bo, bc, rfl, _⟩ := hb.slice
  clear ha hb
  by_cases hlen : a.length = b.length
  rotate_left
  · have hne : a ≠ b := fun e => hlen (by rw [e])
    rw [decide_eq_false hne]
    have hd : ((a.length : Int) != (b.length : Int)) = true := by simp; omega
    clear hne hlen
    generalize a.length = n at *
    generalize b.length = m at *
    go_enter Tryz.func30, Tryz.ntmps30
    go_wp2
    go_ret
    exact ⟨rfl, Below.refl _ _⟩
  have HL := hid hlen
  have HPA := hid (pre_all (a := a) (b := b) hlen)
  have HNL : Hid (b.length = a.length) := hlen.symm
  rw [← hlen]
  rw [← hlen] at HB
  clear hlen
  go_enter Tryz.func30, Tryz.ntmps30
  go_wp2
  go_loopg [5] a.length (fun gk i wr => ∃ k : Nat, k + gk = a.length ∧ i = .int .i64 k ∧ Pre a b k ∧ Aft w wr)
  case atStart => exact ⟨0, by omega, rfl, rfl, Aft.refl _⟩
  case round =>
    obtain ⟨k, hk, rfl, hpre, hr⟩ := hrel
    have HK := hid hk
    have HPRE := hid hpre
    clear hpre
    by_cases hlt : k < a.length
    rotate_left
    · obtain rfl : k = a.length := by omega
      have HEQ := hid (HPA.out HPRE.out)
      clear hk
      generalize a.length = n at *
      go_wp2
      go_ret
      exact ⟨by rw [decide_eq_true HEQ.out]; rfl, hr.below⟩
    have hltb : k < b.length := by rw [HNL.out]; exact hlt
    obtain ⟨ab, aoff, rfl, ha0, xi, a0, a1, a2, a3, a4, hxi⟩ := HA.out.at k hlt
    obtain ⟨bb, boff, rfl, hb0, yi, b0, b1, b2, b3, b4, hyi⟩ := HB.out.at k hltb
    have c0 := later a0; have c1 := later a1; have c2 := later a2; have c3 := later a3; have c4 := later a4
    have d0 := later b0; have d1 := later b1; have d2 := later b2; have d3 := later b3; have d4 := later b4
    have HE := hid (pre_succ hlt hltb HPRE.out)
    have HN := hid (ne_at hlt hltb)
    have hrd := hr.drew
    clear hk a0 a1 a2 a3 a4 b0 b1 b2 b3 b4
    have hlk : (k : Int) < a.length := by omega
    generalize a[k] = x at *
    generalize b[k] = y at *
    have HC := hid (sameInsR_calls xi yi x.ins y.ins wr.drew (hxi.below insStays hrd.below) (hyi.below insStays hrd.below))
    have hq := fun w => neq_ex x.en.kind x.en.a x.en.to x.en.els y.en.kind y.en.a y.en.to y.en.els w
    rw [ex_dec] at hq
    have HEX := hid (@bx_eq x y)
    obtain ⟨q1, q2, rfl, _⟩ := hxi.slice
    obtain ⟨q3, q4, rfl, _⟩ := hyi.slice
    clear hxi hyi HA HB HPA
    generalize a.length = n at *
    cases he : decide (x.en = y.en) with
    | false =>
      rw [he] at hq
      have HNE := hid (HN.out (fun h => (of_decide_eq_false he) (HEX.out.1 h).2))
      clear HE HN HC HEX he
      obtain ⟨xn, xk, xxa, xt, xe⟩ := x
      obtain ⟨yn, yk, yya, yt, ye⟩ := y
      simp only at *
      generalize xn.length = l1 at *
      generalize yn.length = l2 at *
      go_upto_region 6 with fail
      go_quiet (fail)
      obtain ⟨wd, hwd⟩ : ∃ wd : World, wd = wr.drewN nq := ⟨_, rfl⟩
      have hbd : Aft w wd := by rw [hwd]; exact below_drewN hr nq
      rw [← hwd]
      clear hwd
      go_wp2
      go_ret
      exact ⟨by rw [decide_eq_false HNE.out]; rfl, hbd.below⟩
    | true =>
      rw [he] at hq
      have HEI : Hid (x.ins = y.ins → x = y) := fun h => HEX.out.2 ⟨h, of_decide_eq_true he⟩
      clear HEX he
      obtain ⟨xn, xk, xxa, xt, xe⟩ := x
      obtain ⟨yn, yk, yya, yt, ye⟩ := y
      simp only at *
      cases hi : decide (xn = yn) with
      | false =>
        rw [hi] at HC
        have HNE := hid (HN.out (fun h => (of_decide_eq_false hi) (congrArg Bx.ins h)))
        clear HE HN HEI hi
        generalize xn.length = l1 at *
        generalize yn.length = l2 at *
        go_upto_region 6 with fail
        go_region_held3 (fun w' => Aft w w') (first | exact hrd.go hb5 | exact hrd) ((go_at_call 45; refine HC.out.mono ?_; rintro e w5 ⟨rfl, hb5⟩))
        all_goals
          have h5 := hrd.go hb5
          go_wp2
          go_ret
          exact ⟨by rw [decide_eq_false HNE.out]; rfl, h5.below⟩
      | true =>
        rw [hi] at HC
        have HEQ := hid (HE.out (HEI.out (of_decide_eq_true hi)))
        clear HE HN HEI hi
        generalize xn.length = l1 at *
        generalize yn.length = l2 at *
        go_upto_region 6 with fail
        go_region_held3 (fun w' => Aft w w') (first | exact hrd.go hb5 | exact hrd) ((go_at_call 45; refine HC.out.mono ?_; rintro e w5 ⟨rfl, hb5⟩))
        all_goals
          have h5 := hrd.go hb5
          clear hb5
          go_wp2
          go_roundg (gk - 1)
          case measure => have := HK.out; omega
          case rel => exact ⟨k + 1, by have := HK.out; omega, by go_num, HEQ.out, h5⟩

set_option maxRecDepth 100000 in
set_option maxHeartbeats 8000000 in
theorem sameP_calls (v u : Value) (x y : Px) (w : World) (hx : PrAt w v x) (hy : PrAt w u y) :
    Calls Tryz.prog 14 #[v, u] w (BoolR (decide (x = y)) w) := by
  obtain ⟨xt, xf, rfl, hxt, hxf⟩ := hx
  obtain ⟨yt, yf, rfl, hyt, hyf⟩ := hy
  obtain ⟨W, hW⟩ : ∃ W, W = (w.alloc (.cells #[xt, xf] 25)).alloc (.cells #[yt, yf] 25) := ⟨_, rfl⟩
  have hbW : Below w.heap.size w W := by rw [hW]; exact alloc2 _ _ _
  have k1 : W.heap[w.heap.size]? = some (.cells #[xt, xf] 25 (0, 0)) := by rw [hW]; exact alloc_old (alloc_new _ _) _
  have k2 : W.heap[w.heap.size + 1]? = some (.cells #[yt, yf] 25 (0, 0)) := by rw [hW]; exact alloc_at _ _ _ (World.size_alloc _ _)
  have HC := hid (fun wx (h : Aft W wx) => sameR_calls xt yt x.types y.types wx ((hxt.below hbW).below h.below) ((hyt.below hbW).below h.below))
  have HX := hid (hxf.below fnStays hbW)
  have HY := hid (hyf.below fnStays hbW)
  have HE := hid (@px_eq x y)
  obtain ⟨xta, xtc, rfl⟩ := hxt.slice
  obtain ⟨yta, ytc, rfl⟩ := hyt.slice
  obtain ⟨xfa, xfc, rfl, _⟩ := hxf.slice
  obtain ⟨yfa, yfc, rfl, _⟩ := hyf.slice
  have l0 := later_cells k1 0 _ rfl; have l1 := later_cells k1 1 _ rfl
  have m0 := later_cells k2 0 _ rfl; have m1 := later_cells k2 1 _ rfl
  have HBW := hid hbW
  have HW := hid hW
  have h0 := Aft.refl W
  clear hxt hyt hxf hyf hbW hW k1 k2
  obtain ⟨xts, xfs⟩ := x
  obtain ⟨yts, yfs⟩ := y
  simp only at *
  generalize xts.length = n1 at *
  generalize yts.length = n2 at *
  by_cases hlen : xfs.length = yfs.length
  rotate_left
  · rw [decide_eq_false (fun h => hlen (congrArg List.length (HE.out.1 h).2))]
    have hd : ((xfs.length : Int) != (yfs.length : Int)) = true := by simp; omega
    clear HE HC HX HY hlen
    generalize xfs.length = n3 at *
    generalize yfs.length = n4 at *
    go_enter Tryz.func14, Tryz.ntmps14
    go_wp2_with fail
    rw [← HW.out]
    go_wp2
    go_ret
    exact ⟨rfl, HBW.out⟩
  have hd : ((xfs.length : Int) != (yfs.length : Int)) = false := by simp; omega
  have HNL : Hid (yfs.length = xfs.length) := hlen.symm
  have HPA := hid (pre_all (a := xfs) (b := yfs) hlen)
  cases hq : decide (xts = yts) with
  | false =>
    rw [decide_eq_false (fun h => (of_decide_eq_false hq) (HE.out.1 h).1)]
    have HC1 := hid (HC.out W h0)
    rw [hq] at HC1
    clear HE HC HX HY HPA hq HNL hlen
    generalize xfs.length = n3 at *
    generalize yfs.length = n4 at *
    go_enter Tryz.func14, Tryz.ntmps14
    go_wp2_with fail
    rw [← HW.out]
    refine HC1.out.mono ?_
    rintro e w1 ⟨rfl, hb1⟩
    have h1 := h0.go hb1
    clear HC1 hb1
    go_wp2
    go_ret
    exact ⟨rfl, h1.out HBW.out⟩
  | true =>
  have HC1 := hid (HC.out W h0)
  rw [hq] at HC1
  have HDD : Hid (decide ((⟨xts, xfs⟩ : Px) = ⟨yts, yfs⟩) = decide (xfs = yfs)) := by
    show _ = _
    rw [Bool.eq_iff_iff, decide_eq_true_iff, decide_eq_true_iff, HE.out]
    exact ⟨fun h => h.2, fun h => ⟨of_decide_eq_true hq, h⟩⟩
  rw [HDD.out]
  clear HE HC hq HDD
  rw [← hlen] at hd m1
  rw [← hlen]
  rw [← hlen] at HY HW
  clear hlen
  go_enter Tryz.func14, Tryz.ntmps14
  go_wp2_with fail
  rw [← HW.out]
  refine HC1.out.mono ?_
  rintro e w1 ⟨rfl, hb1⟩
  have h1 := h0.go hb1
  have HH1 := hid h1
  clear HC1 hb1
  go_wp2_with fail
  go_loopg [5] xfs.length (fun gk i wr => ∃ k : Nat, k + gk = xfs.length ∧ i = .int .i64 k ∧ Pre xfs yfs k ∧ Aft W wr)
  case atStart => exact ⟨0, by omega, rfl, rfl, HH1.out⟩
  case round =>
    obtain ⟨k, hk, rfl, hpre, hr⟩ := hrel
    clear h1
    have HK := hid hk
    have HPRE := hid hpre
    clear hpre
    by_cases hlt : k < xfs.length
    rotate_left
    · obtain rfl : k = xfs.length := by omega
      have HEQ := hid (HPA.out HPRE.out)
      clear hk
      generalize xfs.length = n at *
      go_wp2
      go_ret
      exact ⟨by rw [decide_eq_true HEQ.out]; rfl, hr.out HBW.out⟩
    have hltb : k < yfs.length := by rw [HNL.out]; exact hlt
    obtain ⟨ab, aoff, rfl, ha0, xi, a0, a1, hxi⟩ := HX.out.at k hlt
    obtain ⟨bb, boff, rfl, hb0, yi, b0, b1, hyi⟩ := HY.out.at k hltb
    have c0 := later a0; have c1 := later a1
    have d0 := later b0; have d1 := later b1
    have HEE := hid (pre_succ hlt hltb HPRE.out)
    have HN := hid (ne_at hlt hltb)
    have hrd := hr.drew
    clear hk a0 a1 b0 b1
    have hlk : (k : Int) < xfs.length := by omega
    generalize xfs[k] = x at *
    generalize yfs[k] = y at *
    have HC := hid (sameBlocksR_calls xi yi x.blocks y.blocks wr.drew (hxi.below blkStays hrd.below) (hyi.below blkStays hrd.below))
    have HEX := hid (@fx_eq x y)
    obtain ⟨q1, q2, rfl, _⟩ := hxi.slice
    obtain ⟨q3, q4, rfl, _⟩ := hyi.slice
    clear hxi hyi HX HY HPA HNL hltb hlt
    generalize xfs.length = n at *
    obtain ⟨xs, xb⟩ := x
    obtain ⟨ys, yb⟩ := y
    simp only at *
    cases he : (xs != ys) with
    | true =>
      have HNE := hid (HN.out (fun h => by have := (HEX.out.1 h).1; simp at he; exact he this))
      clear HEE HN HC HEX
      generalize xb.length = l1 at *
      generalize yb.length = l2 at *
      go_upto_region 6 with fail
      go_quiet (fail)
      obtain ⟨wd, hwd⟩ : ∃ wd : World, wd = wr.drewN nq := ⟨_, rfl⟩
      have hbd : Aft W wd := by rw [hwd]; exact below_drewN hr nq
      rw [← hwd]
      clear hwd
      go_wp2
      go_ret
      exact ⟨by rw [decide_eq_false HNE.out]; rfl, hbd.out HBW.out⟩
    | false =>
      cases hi : decide (xb = yb) with
      | false =>
        rw [hi] at HC
        have HNE := hid (HN.out (fun h => (of_decide_eq_false hi) (congrArg Fx.blocks h)))
        clear HEE HN HEX hi
        generalize xb.length = l1 at *
        generalize yb.length = l2 at *
        go_upto_region 6 with fail
        go_region_held3 (fun w' => Aft W w') (first | exact hrd.go hb5 | exact hrd) ((go_at_call 30; refine HC.out.mono ?_; rintro e w5 ⟨rfl, hb5⟩))
        all_goals
          have h5 := hrd.go hb5
          go_wp2
          go_ret
          exact ⟨by rw [decide_eq_false HNE.out]; rfl, h5.out HBW.out⟩
      | true =>
        rw [hi] at HC
        have HEQ := hid (HEE.out (HEX.out.2 ⟨by simpa using he, of_decide_eq_true hi⟩))
        clear HEE HN HEX hi
        generalize xb.length = l1 at *
        generalize yb.length = l2 at *
        go_upto_region 6 with fail
        go_region_held3 (fun w' => Aft W w') (first | exact hrd.go hb5 | exact hrd) ((go_at_call 30; refine HC.out.mono ?_; rintro e w5 ⟨rfl, hb5⟩))
        all_goals
          have h5 := hrd.go hb5
          clear hb5
          go_wp2
          go_roundg (gk - 1)
          case measure => have := HK.out; omega
          case rel => exact ⟨k + 1, by have := HK.out; omega, by go_num, HEQ.out, h5⟩
end Go.Proofs.YtkohdofbjoomjaaGreatDoor.ShRJ
