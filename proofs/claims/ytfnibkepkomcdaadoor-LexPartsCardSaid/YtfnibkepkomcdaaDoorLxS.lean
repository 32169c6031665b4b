/- Walk over fescueref05.Same: two lists of lines. -/
import Derived.Test.YtfnibkepkomcdaaDoorLxJ
import Derived.Deep.LoopGhost
namespace Go.Proofs.YtfnibkepkomcdaaDoor.LxS
open Go.RowKit Go.Lib LxM LxP LxK LxJ

def BoolR (b : Bool) (w : World) (e : Ending) (w' : World) : Prop := e = .returned (.bool b) ∧ Below w.heap.size w w'
/-- alike, so far -/
def Pre {α : Type} (a b : List α) (k : Nat) : Prop := a.take k = b.take k
theorem pre_succ {α : Type} {a b : List α} {k : Nat} (ha : k < a.length) (hb : k < b.length) (h : Pre a b k) (e : a[k] = b[k]) : Pre a b (k + 1) := by
  unfold Pre at h ⊢
  rw [List.take_succ_eq_append_getElem ha, List.take_succ_eq_append_getElem hb, h, e]
theorem ne_at {α : Type} {a b : List α} {k : Nat} (ha : k < a.length) (hb : k < b.length) (e : a[k] ≠ b[k]) : a ≠ b := fun h => e (by subst h; rfl)
theorem pre_all {α : Type} {a b : List α} (hl : a.length = b.length) (h : Pre a b a.length) : a = b := by
  unfold Pre at h
  rw [List.take_length] at h
  rw [h, List.take_of_length_le (by omega)]
theorem str_ne {x y : ByteArray} (h : x ≠ y) : (x.toList == y.toList) = false := by
  rw [Lib.toList_data, Lib.toList_data]
  refine beq_eq_false_iff_ne.2 fun e => h ?_
  rw [← Lib.mk_data x, ← Lib.mk_data y, e]

set_option maxRecDepth 100000 in
set_option maxHeartbeats 4000000 in
theorem same_calls (va vb : Value) (a b : List (List ByteArray)) (w : World) (ha : LinesAt w va a) (hb : LinesAt w vb b) :
    Calls Tryd.prog 17 #[va, vb] w (BoolR (decide (a = b)) w) := by
  have HA := hid ha
  have HB := hid hb
  obtain ⟨ao, ac, rfl, hla⟩ := ha.slice
  obtain ⟨bo, bc, rfl, hlb⟩ := hb.slice
  clear ha hb
  by_cases hlen : a.length = b.length
  · have HL := hid hlen
    have HPA := hid (pre_all (a := a) (b := b) hlen)
    rw [← hlen] at hlb ⊢
    rw [← hlen] at HB
    clear hlen
    go_enter Tryd.func17, Tryd.ntmps17
    go_wp2
    go_loopg [5] a.length (fun gk i wr => ∃ k : Nat, k + gk = a.length ∧ i = .int .i64 k ∧ Hid (Pre a b k) ∧ Below w.heap.size w wr)
    case atStart => exact ⟨0, by omega, rfl, rfl, Below.refl _ _⟩
    case round =>
      obtain ⟨k, hk, rfl, HPRE, hbe⟩ := hrel
      have HK := hid hk
      by_cases hlt : k < a.length
      · have hltb : k < b.length := by rw [← HL.out]; exact hlt
        obtain ⟨ab, aoff, pa, rfl, ha0, a3, hpa⟩ := (HA.out.below hbe).at k hlt
        obtain ⟨bb, boff, pb, rfl, hb0, b3, hpb⟩ := (HB.out.below hbe).at k hltb
        have HE := hid (pre_succ hlt hltb HPRE.out)
        have HN := hid (ne_at hlt hltb)
        clear hk
        generalize a[k] = x at *
        generalize b[k] = y at *
        have HPX := hid hpa
        have HPY := hid hpb
        obtain ⟨pxa, pxc, rfl, hlx⟩ := hpa.slice
        obtain ⟨pya, pyc, rfl, hly⟩ := hpb.slice
        clear hpa hpb
        by_cases h4 : x.length = y.length
        · have d4 : ((x.length : Int) != (y.length : Int)) = false := by simp; omega
          have H4 := hid h4
          clear h4
          go_wp2
          go_quiet (fail)
          obtain ⟨wd, hwd⟩ : ∃ wd : World, wd = wr.drewN nq := ⟨_, rfl⟩
          have hbd : Below wr.heap.size wr wd := by rw [hwd]; exact below_drewN (Below.refl _ _) nq
          rw [← hwd]
          clear hwd
          have HX4 := hid (And.intro a3 b3)
          have HBD := hid hbd
          clear a3 b3 hbd d4
          go_wp2
          obtain ⟨wo, hwo⟩ : ∃ wo : World, wo = wr := ⟨wr, rfl⟩
          subst hwo
          obtain ⟨go, hgo⟩ : ∃ go : Nat, go = gk := ⟨gk, rfl⟩
          subst hgo
          go_loopg [6] x.length (fun gk jv wr => ∃ j : Nat, j + gk = x.length ∧ jv = .int .i64 j ∧ Hid (Pre x y j) ∧ Below wo.heap.size wo wr)
          case atStart => exact ⟨0, by omega, rfl, rfl, HBD.out⟩
          case round =>
            obtain ⟨j, hj, rfl, HPJ, hbj⟩ := hrel
            have HJ := hid hj
            have a3 := (hbj.cell (p := ⟨ab, _, none⟩) ha0).trans HX4.out.1
            have b3 := (hbj.cell (p := ⟨bb, _, none⟩) hb0).trans HX4.out.2
            by_cases hjl : j < x.length
            · have hjlb : j < y.length := by rw [← H4.out]; exact hjl
              obtain ⟨xb, xoff, rfl, _, cx⟩ := (HPX.out.below hbj).at j hjl
              obtain ⟨yb, yoff, rfl, _, cy⟩ := (HPY.out.below hbj).at j hjlb
              have HEJ := hid (pre_succ hjl hjlb HPJ.out)
              have HNJ := hid (ne_at hjl hjlb)
              clear hj
              generalize x[j] = nx at *
              generalize y[j] = ny at *
              by_cases hxy : nx = ny
              · have HE2 := hid (HEJ.out hxy)
                subst hxy
                have hd : (nx.toList == nx.toList) = true := by simp
                clear HEJ HNJ
                go_wp2
                go_quiet (fail)
                obtain ⟨we, hwe⟩ : ∃ we : World, we = wr.drewN nq := ⟨_, rfl⟩
                have hbe2 : Below wo.heap.size wo we := by rw [hwe]; exact below_drewN hbj nq
                rw [← hwe]
                clear hwe
                go_wp2
                go_roundg (gk - 1)
                case measure => have := HJ.out; omega
                case rel => exact ⟨j + 1, by have := HJ.out; omega, by go_num, HE2, hbe2⟩
              · have hd := str_ne hxy
                have HNE := hid (HN.out (HNJ.out hxy))
                clear HEJ HNJ hxy
                go_wp2
                go_quiet (fail)
                obtain ⟨we, hwe⟩ : ∃ we : World, we = wr.drewN nq := ⟨_, rfl⟩
                have hbe2 : Below wo.heap.size wo we := by rw [hwe]; exact below_drewN hbj nq
                rw [← hwe]
                clear hwe
                go_wp2
                go_ret
                exact ⟨by rw [decide_eq_false HNE.out]; rfl, hbe.trans (hbe2.mono hbe.size)⟩
            · obtain rfl : j = x.length := by omega
              have HEN := hid (HE.out (pre_all H4.out HPJ.out))
              have hbb := hbe.trans (hbj.mono hbe.size)
              clear hj HE HN
              go_wp2
              go_roundg (go - 1)
              case measure => have := HK.out; omega
              case rel => exact ⟨k + 1, by have := HK.out; omega, by go_num, HEN, hbb⟩
        · have d4 : ((x.length : Int) != (y.length : Int)) = true := by simp; omega
          have HNE := hid (HN.out fun e => h4 (by rw [e]))
          clear h4 HE HN
          go_wp2
          go_quiet (fail)
          obtain ⟨wd, hwd⟩ : ∃ wd : World, wd = wr.drewN nq := ⟨_, rfl⟩
          have hbd : Below w.heap.size w wd := by rw [hwd]; exact below_drewN hbe nq
          rw [← hwd]
          clear hwd
          go_wp2
          go_ret
          exact ⟨by rw [decide_eq_false HNE.out]; rfl, hbd⟩
      · obtain rfl : k = a.length := by omega
        have HEQ := hid (HPA.out HPRE.out)
        clear hk
        generalize a.length = n at *
        go_wp2
        go_ret
        exact ⟨by rw [decide_eq_true HEQ.out]; rfl, hbe⟩
  · have hne : a ≠ b := fun e => hlen (by rw [e])
    rw [decide_eq_false hne]
    have hd : ((a.length : Int) != (b.length : Int)) = true := by simp; omega
    clear hne hlen
    generalize a.length = n at *
    generalize b.length = m at *
    go_enter Tryd.func17, Tryd.ntmps17
    go_wp2
    go_ret
    exact ⟨rfl, Below.refl _ _⟩
end Go.Proofs.YtfnibkepkomcdaaDoor.LxS
