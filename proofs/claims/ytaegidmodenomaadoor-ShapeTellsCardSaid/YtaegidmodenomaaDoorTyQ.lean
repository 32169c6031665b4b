/- Walks over types.Same and what it calls. -/
import Derived.Test.YtaegidmodenomaaDoorTyPre
import Derived.Test.YtaegidmodenomaaDoorTyS
namespace Go.Proofs.YtaegidmodenomaaDoor.TyQ
open Go.RowKit Go.Lib Go.Shelf SetP IntO TyM TyP TyB TyC TyD TyE TyS

set_option maxHeartbeats 1000000 in
theorem equal_calls (va vb : Value) (a b : List Int) (w : World) (ha : IntsAt w va a) (hb : IntsAt w vb b) :
    Calls Tryd.prog 82 #[va, vb] w (BoolR (decide (a = b)) w) := by
  have HA := hid ha
  have HB := hid hb
  obtain ⟨ao, ac, rfl, hla⟩ := ints_slice ha
  obtain ⟨bo, bc, rfl, hlb⟩ := ints_slice hb
  clear ha hb
  by_cases hlen : a.length = b.length
  · have HL := hid hlen
    have HPA := hid (pre_all (a := a) (b := b) hlen)
    rw [← hlen] at hlb ⊢
    rw [← hlen] at HB
    clear hlen
    go_enter Tryd.func82, Tryd.ntmps82
    go_wp2
    go_loopg [13] a.length (fun gk i wr => ∃ k : Nat, k + gk = a.length ∧ i = .int .i64 k ∧ Pre a b k ∧ Below w.heap.size w wr)
    case atStart => exact ⟨0, by omega, rfl, rfl, Below.refl _ _⟩
    case round =>
      obtain ⟨k, hk, rfl, hpre, hbe⟩ := hrel
      have HK := hid hk
      have HPRE := hid hpre
      clear hpre
      by_cases hlt : k < a.length
      · have hltb : k < b.length := by rw [← HL.out]; exact hlt
        obtain ⟨ab, aoff, rfl, _, ca⟩ := ints_at (HA.out.below hbe) k hlt
        obtain ⟨bb, boff, rfl, _, cb⟩ := ints_at (HB.out.below hbe) k hltb
        have HE := hid (pre_succ hlt hltb HPRE.out)
        have HN := hid (ne_at hlt hltb)
        clear hk
        generalize a[k] = x at *
        generalize b[k] = y at *
        by_cases hxy : x = y
        · have HE2 := hid (HE.out hxy)
          have hd : (x != y) = false := by simpa using hxy
          clear hxy HE HN
          go_wp2
          go_quiet (fail)
          obtain ⟨wd, hwd⟩ : ∃ wd : World, wd = wr.drewN nq := ⟨_, rfl⟩
          have hbd : Below w.heap.size w wd := by rw [hwd]; exact below_drewN hbe nq
          rw [← hwd]
          clear hwd
          go_wp2
          go_roundg (gk - 1)
          case measure => have := HK.out; omega
          case rel => exact ⟨k + 1, by have := HK.out; omega, by go_num, HE2.out, hbd⟩
        · have hd : (x != y) = true := by simpa using hxy
          have HNE := hid (HN.out hxy)
          clear HE HN hxy
          go_wp2
          go_quiet (fail)
          obtain ⟨wd, hwd⟩ : ∃ wd : World, wd = wr.drewN nq := ⟨_, rfl⟩
          have hbd : Below w.heap.size w wd := by rw [hwd]; exact below_drewN hbe nq
          rw [← hwd]
          clear hwd
          go_wp2
          go_ret
          exact ⟨by rw [decide_eq_false HNE.out]; rfl, hbd⟩
      · obtain rfl : k = a.length := by omega
        have HEQ := hid (HPA.out HPRE.out)
        clear hk
        generalize a.length = n at *
        go_wp2
        go_ret
        exact ⟨by rw [decide_eq_true HEQ.out]; rfl, hbe⟩
  · have hne : a ≠ b := fun e => hlen (by rw [e])
    rw [decide_eq_false hne]
    have hd : ((a.length : Int) != (b.length : Int)) = true := by simp; omega
    clear hne hlen
    generalize a.length = n at *
    generalize b.length = m at *
    go_enter Tryd.func82, Tryd.ntmps82
    go_wp2
    go_ret
    exact ⟨rfl, Below.refl _ _⟩

set_option maxHeartbeats 1000000 in
theorem same1_calls (x y : Ty) (px py : Value) (w : World) (hx : IntsAt w px x.parts) (hy : IntsAt w py y.parts) :
    Calls Tryd.prog 81 #[tyV x px, tyV y py] w (BoolR (decide (x = y)) w) := by
  have hb0 : Below w.heap.size w ((w.alloc (.cells #[.int .u8 x.kind, .int .i64 x.elem, .int .i64 x.many, px] 65)).alloc (.cells #[.int .u8 y.kind, .int .i64 y.elem, .int .i64 y.many, py] 65)) := ((Below.refl _ _).alloc (Nat.le_refl _) _).alloc (by simp) _
  have HC := hid (equal_calls px py x.parts y.parts _ (hx.below hb0) (hy.below hb0))
  have HE := hid (@ty_eq x y)
  obtain ⟨pxa, pxc, rfl, hlx⟩ := ints_slice hx
  obtain ⟨pya, pyc, rfl, hly⟩ := ints_slice hy
  clear hx hy
  by_cases h1 : x.kind = y.kind
  · by_cases h2 : x.elem = y.elem
    · by_cases h3 : x.many = y.many
      · have hd : decide (x = y) = decide (x.parts = y.parts) := by
          apply Bool.eq_iff_iff.2
          rw [decide_eq_true_iff, decide_eq_true_iff, HE.out]
          exact ⟨fun h => h.2.2.2, fun h => ⟨h1, h2, h3, h⟩⟩
        rw [hd]
        clear hd HE
        generalize decide (x.parts = y.parts) = b at *
        obtain ⟨xk, xe, xm, xp⟩ := x
        obtain ⟨yk, ye, ym, yp⟩ := y
        simp only at *
        subst h1
        subst h2
        subst h3
        generalize xp.length = n at *
        generalize yp.length = m at *
        go_enter Tryd.func81, Tryd.ntmps81
        go_wp2_with fail
        refine HC.out.mono ?_
        rintro e w1 ⟨rfl, hb1⟩
        have hbe := hb0.trans (hb1.mono hb0.size)
        clear hb1
        go_wp2
        go_ret
        exact ⟨rfl, hbe⟩
      · rw [decide_eq_false (fun h => h3 (HE.out.1 h).2.2.1)]
        clear HC HE
        obtain ⟨xk, xe, xm, xp⟩ := x
        obtain ⟨yk, ye, ym, yp⟩ := y
        simp only at *
        have hd3 : (xm == ym) = false := by simpa using h3
        subst h1
        subst h2
        clear h3
        generalize xp.length = n at *
        generalize yp.length = m at *
        go_enter Tryd.func81, Tryd.ntmps81
        go_wp2
        go_ret
        exact ⟨rfl, hb0⟩
    · rw [decide_eq_false (fun h => h2 (HE.out.1 h).2.1)]
      clear HC HE
      obtain ⟨xk, xe, xm, xp⟩ := x
      obtain ⟨yk, ye, ym, yp⟩ := y
      simp only at *
      have hd2 : (xe == ye) = false := by simpa using h2
      subst h1
      clear h2
      generalize xp.length = n at *
      generalize yp.length = m at *
      go_enter Tryd.func81, Tryd.ntmps81
      go_wp2
      go_ret
      exact ⟨rfl, hb0⟩
  · rw [decide_eq_false (fun h => h1 (HE.out.1 h).1)]
    clear HC HE
    obtain ⟨xk, xe, xm, xp⟩ := x
    obtain ⟨yk, ye, ym, yp⟩ := y
    simp only at *
    have hd1 : (xk == yk) = false := by simpa using h1
    clear h1
    generalize xp.length = n at *
    generalize yp.length = m at *
    go_enter Tryd.func81, Tryd.ntmps81
    go_wp2
    go_ret
    exact ⟨rfl, hb0⟩

set_option maxHeartbeats 1000000 in
theorem equalFunc_calls (va vb : Value) (a b : List Ty) (w : World) (ha : TysAt w va a) (hb : TysAt w vb b) :
    Calls Tryd.prog 80 #[va, vb, .func (.func 81) #[] #[]] w (BoolR (decide (a = b)) w) := by
  have HA := hid ha
  have HB := hid hb
  obtain ⟨ao, ac, rfl⟩ := ha.slice
  obtain ⟨bo, bc, rfl⟩ := hb.slice
  have hla : a.length ≤ 9223372036854775807 := by obtain ⟨_, _, _, h, _⟩ := ha; exact h
  clear ha hb
  by_cases hlen : a.length = b.length
  · have HL := hid hlen
    have HPA := hid (pre_all (a := a) (b := b) hlen)
    rw [← hlen]
    rw [← hlen] at HB
    clear hlen
    go_enter Tryd.func80, Tryd.ntmps80
    go_wp2
    go_loopg [17] a.length (fun gk i wr => ∃ k : Nat, k + gk = a.length ∧ i = .int .i64 k ∧ Pre a b k ∧ Below w.heap.size w wr)
    case atStart => exact ⟨0, by omega, rfl, rfl, Below.refl _ _⟩
    case round =>
      obtain ⟨k, hk, rfl, hpre, hbe⟩ := hrel
      have HK := hid hk
      have HPRE := hid hpre
      clear hpre
      by_cases hlt : k < a.length
      · have hltb : k < b.length := by rw [← HL.out]; exact hlt
        obtain ⟨ab, aoff, rfl, ha0, pa, a0, a1, a2, a3, hpa⟩ := (HA.out.below hbe).at k hlt
        obtain ⟨bb, boff, rfl, hb0, pb, b0, b1, b2, b3, hpb⟩ := (HB.out.below hbe).at k hltb
        have HE := hid (pre_succ hlt hltb HPRE.out)
        have HN := hid (ne_at hlt hltb)
        have hsz := hbe.size
        clear hk
        generalize a[k] = x at *
        generalize b[k] = y at *
        have hb2 : Below wr.heap.size wr ((wr.alloc (.cells #[.int .u8 x.kind, .int .i64 x.elem, .int .i64 x.many, pa] 65)).alloc (.cells #[.int .u8 y.kind, .int .i64 y.elem, .int .i64 y.many, pb] 65)) := ((Below.refl _ _).alloc (Nat.le_refl _) _).alloc (by simp) _
        have HC := hid (same1_calls x y pa pb _ (hpa.below hb2) (hpb.below hb2))
        have hbe2 := hbe.trans (hb2.mono hbe.size)
        obtain ⟨pxa, pxc, rfl, hlx⟩ := ints_slice hpa
        obtain ⟨pya, pyc, rfl, hly⟩ := ints_slice hpb
        clear hpa hpb hb2
        by_cases hxy : x = y
        · rw [decide_eq_true hxy] at HC
          have HE2 := hid (HE.out hxy)
          clear hxy HE HN
          go_wp2_with fail
          refine HC.out.mono ?_
          rintro e w1 ⟨rfl, hb1⟩
          have hbe3 := hbe2.trans (hb1.mono hbe2.size)
          clear hb1
          go_wp2
          go_roundg (gk - 1)
          case measure => have := HK.out; omega
          case rel => exact ⟨k + 1, by have := HK.out; omega, by go_num, HE2.out, hbe3⟩
        · rw [decide_eq_false hxy] at HC
          have HNE := hid (HN.out hxy)
          clear hxy HE HN
          go_wp2_with fail
          refine HC.out.mono ?_
          rintro e w1 ⟨rfl, hb1⟩
          have hbe3 := hbe2.trans (hb1.mono hbe2.size)
          clear hb1
          go_wp2
          go_ret
          exact ⟨by rw [decide_eq_false HNE.out]; rfl, hbe3⟩
      · obtain rfl : k = a.length := by omega
        have HEQ := hid (HPA.out HPRE.out)
        clear hk
        generalize a.length = n at *
        go_wp2
        go_ret
        exact ⟨by rw [decide_eq_true HEQ.out]; rfl, hbe⟩
  · have hne : a ≠ b := fun e => hlen (by rw [e])
    rw [decide_eq_false hne]
    have hd : ((a.length : Int) != (b.length : Int)) = true := by simp; omega
    clear hne hlen
    generalize a.length = n at *
    generalize b.length = m at *
    go_enter Tryd.func80, Tryd.ntmps80
    go_wp2
    go_ret
    exact ⟨rfl, Below.refl _ _⟩

theorem same_calls (va vb : Value) (a b : List Ty) (w : World) (ha : TysAt w va a) (hb : TysAt w vb b) :
    Calls Tryd.prog 49 #[va, vb] w (BoolR (decide (a = b)) w) := by
  have HC := hid (equalFunc_calls va vb a b w ha hb)
  obtain ⟨ao, ac, rfl⟩ := ha.slice
  obtain ⟨bo, bc, rfl⟩ := hb.slice
  clear ha hb
  generalize a.length = n at *
  generalize b.length = m at *
  generalize decide (a = b) = r at *
  go_enter Tryd.func49, Tryd.ntmps49
  go_wp2_with fail
  refine HC.out.mono ?_
  rintro e w1 ⟨rfl, hb1⟩
  go_wp2
  go_ret
  exact ⟨rfl, hb1⟩
end Go.Proofs.YtaegidmodenomaaDoor.TyQ
