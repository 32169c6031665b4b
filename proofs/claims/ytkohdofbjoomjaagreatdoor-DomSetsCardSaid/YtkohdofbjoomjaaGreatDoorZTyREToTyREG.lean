/- A walk over fescueref03.Same. Walk over fescueref03.Great. -/
import Derived.Test.YtkohdofbjoomjaaGreatDoorZTyBToTyRI
namespace Go.Proofs.YtkohdofbjoomjaaGreatDoor.TyRE
open Go.RowKit Go.Lib Go.Shelf SetP IntO TyM TyP TyB TyQ

theorem ty_ne1 {x y : Ty} (h : x.kind ≠ y.kind) : x ≠ y := fun e => h (by rw [e])
theorem ty_ne2 {x y : Ty} (h : x.elem ≠ y.elem) : x ≠ y := fun e => h (by rw [e])
theorem ty_ne3 {x y : Ty} (h : x.many ≠ y.many) : x ≠ y := fun e => h (by rw [e])
theorem ty_ne4 {x y : Ty} (h : x.parts ≠ y.parts) : x ≠ y := fun e => h (by rw [e])

set_option maxRecDepth 100000 in
set_option maxHeartbeats 4000000 in
theorem sameR_calls (va vb : Value) (a b : List Ty) (w : World) (ha : TysAt w va a) (hb : TysAt w vb b) :
    Calls Tryz.prog 29 #[va, vb] w (BoolR (decide (a = b)) w) := by
  have HA := hid ha
  have HB := hid hb
  obtain ⟨ao, ac, rfl⟩ := ha.slice
  obtain ⟨bo, bc, rfl⟩ := hb.slice
  have hla : a.length ≤ 9223372036854775807 := by obtain ⟨_, _, _, h, _⟩ := ha; exact h
  clear ha hb
  by_cases hlen : a.length = b.length
  · have HL := hid hlen
    have HPA := hid (pre_all (a := a) (b := b) hlen)
    rw [← hlen]
    rw [← hlen] at HB
    clear hlen
    go_enter Tryz.func29, Tryz.ntmps29
    go_wp2
    go_loopg [5] a.length (fun gk i wr => ∃ k : Nat, k + gk = a.length ∧ i = .int .i64 k ∧ Pre a b k ∧ Below w.heap.size w wr)
    case atStart => exact ⟨0, by omega, rfl, rfl, Below.refl _ _⟩
    case round =>
      obtain ⟨k, hk, rfl, hpre, hbe⟩ := hrel
      have HK := hid hk
      have HPRE := hid hpre
      clear hpre
      by_cases hlt : k < a.length
      · have hltb : k < b.length := by rw [← HL.out]; exact hlt
        obtain ⟨ab, aoff, rfl, ha0, pa, a0, a1, a2, a3, hpa⟩ := (HA.out.below hbe).at k hlt
        obtain ⟨bb, boff, rfl, hb0, pb, b0, b1, b2, b3, hpb⟩ := (HB.out.below hbe).at k hltb
        have HE := hid (pre_succ hlt hltb HPRE.out)
        have HN := hid (ne_at hlt hltb)
        clear hk
        generalize a[k] = x at *
        generalize b[k] = y at *
        have HPX := hid hpa
        have HPY := hid hpb
        obtain ⟨pxa, pxc, rfl, hlx⟩ := ints_slice hpa
        obtain ⟨pya, pyc, rfl, hly⟩ := ints_slice hpb
        clear hpa hpb
        by_cases h1 : x.kind = y.kind
        · have d1 : (x.kind != y.kind) = false := by simpa using h1
          have H1 := hid h1
          clear h1
          by_cases h2 : x.elem = y.elem
          · have d2 : (x.elem != y.elem) = false := by simpa using h2
            have H2 := hid h2
            clear h2
            by_cases h3 : x.many = y.many
            · have d3 : (x.many != y.many) = false := by simpa using h3
              have H3 := hid h3
              clear h3
              by_cases h4 : x.parts.length = y.parts.length
              · have d4 : ((x.parts.length : Int) != (y.parts.length : Int)) = false := by simp; omega
                have H4 := hid h4
                clear h4
                go_wp2
                go_quiet (fail)
                obtain ⟨wd, hwd⟩ : ∃ wd : World, wd = wr.drewN nq := ⟨_, rfl⟩
                have hbd : Below wr.heap.size wr wd := by rw [hwd]; exact below_drewN (Below.refl _ _) nq
                rw [← hwd]
                clear hwd
                have HX4 := hid (And.intro (And.intro a0 (And.intro a1 (And.intro a2 a3))) (And.intro b0 (And.intro b1 (And.intro b2 b3))))
                have HBD := hid hbd
                clear a0 a1 a2 a3 b0 b1 b2 b3 hbd d1 d2 d3 d4
                go_wp2
                obtain ⟨wo, hwo⟩ : ∃ wo : World, wo = wr := ⟨wr, rfl⟩
                subst hwo
                obtain ⟨go, hgo⟩ : ∃ go : Nat, go = gk := ⟨gk, rfl⟩
                subst hgo
                go_loopg [6] x.parts.length (fun gk jv wr => ∃ j : Nat, j + gk = x.parts.length ∧ jv = .int .i64 j ∧ Pre x.parts y.parts j ∧ Below wo.heap.size wo wr)
                case atStart => exact ⟨0, by omega, rfl, rfl, HBD.out⟩
                case round =>
                  obtain ⟨j, hj, rfl, hprej, hbj⟩ := hrel
                  have HJ := hid hj
                  have HPJ := hid hprej
                  clear hprej
                  have a3 := (hbj.cell (p := ⟨ab, _, none⟩) ha0).trans HX4.out.1.2.2.2
                  have b3 := (hbj.cell (p := ⟨bb, _, none⟩) hb0).trans HX4.out.2.2.2.2
                  by_cases hjl : j < x.parts.length
                  · have hjlb : j < y.parts.length := by rw [← H4.out]; exact hjl
                    obtain ⟨xb, xoff, rfl, _, cx⟩ := ints_at (HPX.out.below hbj) j hjl
                    obtain ⟨yb, yoff, rfl, _, cy⟩ := ints_at (HPY.out.below hbj) j hjlb
                    have HEJ := hid (pre_succ hjl hjlb HPJ.out)
                    have HNJ := hid (ne_at hjl hjlb)
                    clear hj
                    generalize x.parts[j] = nx at *
                    generalize y.parts[j] = ny at *
                    by_cases hxy : nx = ny
                    · have HE2 := hid (HEJ.out hxy)
                      have hd : (nx != ny) = false := by simpa using hxy
                      clear hxy HEJ HNJ
                      go_wp2
                      go_quiet (fail)
                      obtain ⟨we, hwe⟩ : ∃ we : World, we = wr.drewN nq := ⟨_, rfl⟩
                      have hbe2 : Below wo.heap.size wo we := by rw [hwe]; exact below_drewN hbj nq
                      rw [← hwe]
                      clear hwe
                      go_wp2
                      go_roundg (gk - 1)
                      case measure => have := HJ.out; omega
                      case rel => exact ⟨j + 1, by have := HJ.out; omega, by go_num, HE2.out, hbe2⟩
                    · have hd : (nx != ny) = true := by simpa using hxy
                      have HNE := hid (HN.out (ty_ne4 (HNJ.out hxy)))
                      clear HEJ HNJ hxy
                      go_wp2
                      go_quiet (fail)
                      obtain ⟨we, hwe⟩ : ∃ we : World, we = wr.drewN nq := ⟨_, rfl⟩
                      have hbe2 : Below wo.heap.size wo we := by rw [hwe]; exact below_drewN hbj nq
                      rw [← hwe]
                      clear hwe
                      go_wp2
                      go_ret
                      exact ⟨by rw [decide_eq_false HNE.out]; rfl, hbe.trans (hbe2.mono hbe.size)⟩
                  · obtain rfl : j = x.parts.length := by omega
                    have HEQ : Hid (x = y) := by
                      show _ = _
                      exact ty_eq.2 ⟨H1.out, H2.out, H3.out, pre_all H4.out HPJ.out⟩
                    have HEN := hid (HE.out HEQ.out)
                    have hbb := hbe.trans (hbj.mono hbe.size)
                    clear hj HEQ HE HN
                    go_wp2
                    go_roundg (go - 1)
                    case measure => have := HK.out; omega
                    case rel => exact ⟨k + 1, by have := HK.out; omega, by go_num, HEN.out, hbb⟩
              · have d4 : ((x.parts.length : Int) != (y.parts.length : Int)) = true := by simp; omega
                have HNE := hid (HN.out (ty_ne4 fun e => h4 (by rw [e])))
                clear h4 HE HN
                go_wp2
                go_quiet (fail)
                obtain ⟨wd, hwd⟩ : ∃ wd : World, wd = wr.drewN nq := ⟨_, rfl⟩
                have hbd : Below w.heap.size w wd := by rw [hwd]; exact below_drewN hbe nq
                rw [← hwd]
                clear hwd
                go_wp2
                go_ret
                exact ⟨by rw [decide_eq_false HNE.out]; rfl, hbd⟩
            · have d3 : (x.many != y.many) = true := by simpa using h3
              have HNE := hid (HN.out (ty_ne3 h3))
              clear h3 HE HN
              go_wp2
              go_quiet (fail)
              obtain ⟨wd, hwd⟩ : ∃ wd : World, wd = wr.drewN nq := ⟨_, rfl⟩
              have hbd : Below w.heap.size w wd := by rw [hwd]; exact below_drewN hbe nq
              rw [← hwd]
              clear hwd
              go_wp2
              go_ret
              exact ⟨by rw [decide_eq_false HNE.out]; rfl, hbd⟩
          · have d2 : (x.elem != y.elem) = true := by simpa using h2
            have HNE := hid (HN.out (ty_ne2 h2))
            clear h2 HE HN
            go_wp2
            go_quiet (fail)
            obtain ⟨wd, hwd⟩ : ∃ wd : World, wd = wr.drewN nq := ⟨_, rfl⟩
            have hbd : Below w.heap.size w wd := by rw [hwd]; exact below_drewN hbe nq
            rw [← hwd]
            clear hwd
            go_wp2
            go_ret
            exact ⟨by rw [decide_eq_false HNE.out]; rfl, hbd⟩
        · have d1 : (x.kind != y.kind) = true := by simpa using h1
          have HNE := hid (HN.out (ty_ne1 h1))
          clear h1 HE HN
          go_wp2
          go_quiet (fail)
          obtain ⟨wd, hwd⟩ : ∃ wd : World, wd = wr.drewN nq := ⟨_, rfl⟩
          have hbd : Below w.heap.size w wd := by rw [hwd]; exact below_drewN hbe nq
          rw [← hwd]
          clear hwd
          go_wp2
          go_ret
          exact ⟨by rw [decide_eq_false HNE.out]; rfl, hbd⟩
      · obtain rfl : k = a.length := by omega
        have HEQ := hid (HPA.out HPRE.out)
        clear hk
        generalize a.length = n at *
        go_wp2
        go_ret
        exact ⟨by rw [decide_eq_true HEQ.out]; rfl, hbe⟩
  · have hne : a ≠ b := fun e => hlen (by rw [e])
    rw [decide_eq_false hne]
    have hd : ((a.length : Int) != (b.length : Int)) = true := by simp; omega
    clear hne hlen
    generalize a.length = n at *
    generalize b.length = m at *
    go_enter Tryz.func29, Tryz.ntmps29
    go_wp2
    go_ret
    exact ⟨rfl, Below.refl _ _⟩
end Go.Proofs.YtkohdofbjoomjaaGreatDoor.TyRE
namespace Go.Proofs.YtkohdofbjoomjaaGreatDoor.TyRE
open Go.RowKit Go.Lib Go.Shelf SetP IntO TyM TyP TyB TyQ


/-- is a table more than statements go through? -/
def greatB (t : List Ty) : Bool := (t.take 30).any (fun x => decide (20 < x.parts.length)) || decide (20 < t.length)
theorem great_no {t : List Ty} (h : greatB t = false) : t.length ≤ 20 ∧ ∀ x ∈ t, x.parts.length ≤ 20 := by
  unfold greatB at h
  simp only [Bool.or_eq_false_iff, decide_eq_false_iff_not] at h
  obtain ⟨h1, h2⟩ := h
  refine ⟨by omega, fun x hx => ?_⟩
  rw [List.take_of_length_le (by omega)] at h1
  have := List.any_eq_false.1 h1 x hx
  simp only [decide_eq_true_eq] at this
  omega

set_option maxHeartbeats 1000000 in
theorem great_calls (v : Value) (t : List Ty) (w : World) (ht : TysAt w v t) : Calls Tryz.prog 17 #[v] w (BoolR (greatB t) w) := by
  have HT := hid ht
  obtain ⟨ao, cap, rfl⟩ := ht.slice
  have hll : t.length ≤ 9223372036854775807 := by obtain ⟨_, _, _, h, _⟩ := ht; exact h
  clear ht
  have HD : Hid (greatB t = ((t.take 30).any (fun x => decide (20 < x.parts.length)) || decide (20 < t.length))) := rfl
  have HS : Hid (∀ k (hk : k < t.length), ((t.take k).any fun x => decide (20 < x.parts.length)) = false → ¬ 20 < t[k].parts.length → ((t.take (k + 1)).any fun x => decide (20 < x.parts.length)) = false) := fun k hk h h2 => by
    rw [List.take_succ_eq_append_getElem hk, List.any_append, h]
    simp; omega
  have HY : Hid (∀ k (hk : k < t.length), k < 30 → 20 < t[k].parts.length → ((t.take 30).any fun x => decide (20 < x.parts.length)) = true) := fun k hk h30 h => by
    refine List.any_eq_true.2 ⟨t[k], ?_, by simpa using h⟩
    have : (t.take 30)[k]'(by rw [List.length_take]; omega) = t[k] := List.getElem_take
    rw [← this]
    exact List.getElem_mem _
  go_enter Tryz.func17, Tryz.ntmps17
  go_wp2
  go_loop [3] (fun i => ∃ k : Nat, k ≤ t.length ∧ k ≤ 30 ∧ i = .int .i64 k ∧ ((t.take k).any fun x => decide (20 < x.parts.length)) = false) (fun i => 30 - (intOf i).toNat)
  case atStart => exact ⟨0, by omega, by omega, rfl, rfl⟩
  case round =>
    obtain ⟨k, hk, hk30, rfl, hno⟩ := hrel
    have HN := hid hno
    clear hno
    by_cases hlt : k < t.length
    · by_cases h30 : k < 30
      · obtain ⟨tb, off, rfl, _, pv, c0, c1, c2, c3, hp⟩ := HT.out.at k hlt
        have HS2 := hid (HS.out k hlt HN.out)
        have HY2 := hid (HY.out k hlt h30)
        obtain ⟨pa, pc, rfl, hpl⟩ := ints_slice hp
        clear hp
        generalize t[k] = x at *
        generalize x.parts.length = pn at *
        have hi : (k : Int) < 30 := by omega
        by_cases hbig : 20 < pn
        · have hb : (20 : Int) < pn := by omega
          have HE := hid (HY2.out hbig)
          clear hbig
          go_wp2
          all_goals (try (exfalso; omega))
          go_ret
          exact ⟨by rw [HD.out, HE.out]; rfl, Below.refl _ _⟩
        · have hb : ¬ (20 : Int) < pn := by omega
          have HE := hid (HS2.out hbig)
          clear hbig
          go_wp2
          all_goals (try (exfalso; omega))
          go_round
          case rel => exact ⟨k + 1, by omega, by omega, by go_num, HE.out⟩
          case measure => simp [intOf]; omega
      · have hge : (30 : Int) ≤ k := by omega
        have hi : ¬ (k : Int) < 30 := by omega
        have hbig : (20 : Int) < t.length := by omega
        have HB : Hid (greatB t = true) := by
          show _ = _
          rw [HD.out]
          simp; right; omega
        go_wp2
        all_goals (try (exfalso; omega))
        go_ret
        exact ⟨by rw [HB.out]; rfl, Below.refl _ _⟩
    · obtain rfl : k = t.length := by omega
      have HB : Hid (greatB t = decide ((20 : Int) < t.length)) := by
        show _ = _
        rw [HD.out]
        have := HN.out
        rw [List.take_length] at this
        rw [List.take_of_length_le hk30, this, Bool.false_or]
        simp
        first | rfl | (constructor <;> intro h <;> omega)
      clear HS HY HD HN HT
      generalize t.length = n at *
      go_wp2
      all_goals (try (exfalso; omega))
      all_goals
        go_ret
        refine ⟨?_, Below.refl _ _⟩
        rw [HB.out]
        first | rfl | (congr 2; simp; omega)
end Go.Proofs.YtkohdofbjoomjaaGreatDoor.TyRE
