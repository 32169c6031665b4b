/- Walk over live.phis: the registers that phis read at a block's end. Walks over the reference's below, mayN, mayEnd, mayFunc, Check (fescueref06). Walk over the reference's Number (fescueref06). Walks over the reference's asked, Count, Regs (fescueref06). Walk over the reference's Regs (fescueref06). A walk over fescueref09.asked. A walk over fescueref09.Next. A walk over fescueref11.atEnd. A walk over fescueref11.Lives. -/
import Derived.Test.YtkcocgdgmlmflaaGreatDoorZIntGToLiC
import Derived.Test.YtkcocgdgmlmflaaGreatDoorZShEToShER
import Derived.Test.YtkcocgdgmlmflaaGreatDoorZTyBToTyRE
import Derived.LoopTactic
import Derived.Test.YtkcocgdgmlmflaaGreatDoorZShBToShW
import Derived.Test.YtkcocgdgmlmflaaGreatDoorZTyMToShN
import Derived.BigGuardPart
import Derived.Deep.Cut
import Derived.Deep.DeepCutAuto
import Derived.Test.YtkcocgdgmlmflaaGreatDoorZShFToShRV
import Derived.Test.YtkcocgdgmlmflaaGreatDoorZIntOToAft
import Derived.Test.YtkcocgdgmlmflaaGreatDoorZShIToFwK
import Derived.Test.YtkcocgdgmlmflaaGreatDoorZTyRB
import Derived.Test.YtkcocgdgmlmflaaGreatDoorZRwHToShTB
import Derived.Test.YtkcocgdgmlmflaaGreatDoorZFwRToTyRT
namespace Go.Proofs.YtkcocgdgmlmflaaGreatDoor.LiD
open Go.RowKit Go.Lib SetP IntO TyM TyP TyB ShM ShP ShA ShB Aft Fresh BitOf FwP FwQ FwR FwO IntG LvM LuM LgD BlkG LiM LiA LiB

set_option maxRecDepth 100000 in
set_option maxHeartbeats 8000000 in
theorem phis_c (bl : List Bx) (va vn : Value) (j : Nat) (tl : List Nat) (N : Nat) (w : World) (hbl : BlksAt w va bl) (hv : IntsAt w vn (ints tl)) (htl : ∀ t ∈ tl, t < bl.length) (h2 : tl.length ≤ 2) (hR : Regs N bl) (hbn : bl.length ≤ 1000) :
    Calls Tryz.prog 31 #[va, .int .i64 (j : Int), vn] w fun e w' => ∃ u, e = .returned u ∧ NewSt w.heap.size w' u (ofS (phL j bl tl)) ∧ Below w.heap.size w w' := by
  obtain ⟨ba, bc, rfl, _⟩ := hbl.slice
  obtain ⟨na, nc, rfl, _⟩ := ints_slice hv
  rw [ints_length] at hv ⊢
  have HBL := hid hbl
  have HV := hid hv
  have HGN := hid (phL_few (b := j) hR htl h2)
  have HGS := hid (fun (i t : Nat) (h : tl[i]? = some t) => phL_succ (b := j) (l := bl) h)
  have HTL := hid htl
  have HXF := hid (fun (t : Nat) (h : t < bl.length) => insAt_facts hR h)
  have HXL := hid (fun (t : Nat) (h : t < bl.length) => insL_few (b := j) hR h)
  have H2 := hid h2
  have HBN := hid hbn
  have hz : Hid (w.ownsRow w.heap.size 3 1 (.slice none 0 0) (phL j bl (tl.take 0)).length (intVals (phL j bl (tl.take 0)))) := ⟨rfl, .inl ⟨rfl, rfl⟩⟩
  have HPE : Hid (phL j bl (tl.take tl.length) = phL j bl tl) := by show _ = _; rw [List.take_length]
  clear hbl hv htl h2 hR hbn
  go_enter Tryz.func31, Tryz.ntmps31
  go_wp2_with fail
  go_loopg [7, 16] tl.length (fun gk u i wr => ∃ k : Nat, k + gk = tl.length ∧ i = .int .i64 k ∧ wr.ownsRow w.heap.size 3 1 u (phL j bl (tl.take k)).length (intVals (phL j bl (tl.take k))) ∧ Aft w wr)
  case atStart => exact ⟨0, by omega, rfl, hz.out, Aft.refl _⟩
  case round =>
    obtain ⟨i, hi, rfl, hown, hA⟩ := hrel
    have HI := hid hi
    have HOWN := hid hown
    obtain ⟨ua, uc, rfl⟩ := own_slice hown
    have HG1 := hid (HGN.out i)
    clear hi hown hz
    by_cases hit : i < tl.length
    · have HIT := hid hit
      obtain ⟨t, ht⟩ := some_at hit
      have HT := hid (HTL.out t (List.mem_of_getElem? ht))
      obtain ⟨nb, no, rfl, n0⟩ := nat_at (HV.out.below hA.below) ht
      obtain ⟨gb, goff, xa, xc, rfl, z0, hins, _⟩ := blk_ins HBL.out HT.out
      have HGS1 := hid (HGS.out i t ht)
      have HXF1 := hid (HXF.out t HT.out)
      have HXL1 := hid (HXL.out t HT.out)
      have c0 := z0 wr hA
      have htb : (t : Int) < (bl.length : Int) := by have := HT.out; omega
      have hit2 : (i : Int) < (tl.length : Int) := by omega
      have hib : i ≤ 9223372036854775806 := by have := H2.out; omega
      have HINS := hid hins
      clear ht z0 hins HGS HXF HXL HV HTL HT hit
      obtain ⟨A, hAe⟩ : ∃ A, A = phL j bl (tl.take i) := ⟨_, rfl⟩
      have HAL2 : Hid (A.length ≤ 80000) := by
        show _ ≤ _
        rw [hAe]
        have := HG1.out
        omega
      have HAE := hid hAe
      rw [← hAe] at HOWN
      rw [← hAe]
      clear hAe HG1
      generalize insAt bl t = xs at *
      obtain ⟨g1, hg1⟩ : ∃ g1 : Nat, g1 = gk := ⟨gk, rfl⟩
      subst hg1
      go_wp2_with fail
      go_loopg [7, 26] xs.length (fun gk u kv wr => ∃ k2 : Nat, k2 + gk = xs.length ∧ kv = .int .i64 k2 ∧ wr.ownsRow w.heap.size 3 1 u (A ++ insL j (xs.take k2)).length (intVals (A ++ insL j (xs.take k2))) ∧ Aft w wr)
      case atStart => exact ⟨0, by omega, rfl, by simpa [insL] using HOWN.out, hA⟩
      case round =>
        obtain ⟨k2, hk2, rfl, hown, hA⟩ := hrel
        have HK2 := hid hk2
        have HOWN := hid hown
        obtain ⟨ua2, uc2, rfl⟩ := own_slice hown
        clear hk2 hown c0 n0
        by_cases hkt : k2 < xs.length
        · have HKT := hid hkt
          obtain ⟨x, hx⟩ := some_at hkt
          obtain ⟨gi, ioff, aa, ac, fa2, fc2, rfl, i0, i1, i2, i3, i4, i5, i6, ja, jf⟩ := ins_later HINS.out hx
          have u0 := i0 wr hA; have u1 := i1 wr hA; have u2 := i2 wr hA; have u3 := i3 wr hA; have u4 := i4 wr hA; have u5 := i5 wr hA; have u6 := i6 wr hA
          have HJA := hid ja
          have HJF := hid jf
          have HIS := hid (insL_succ (b := j) hx)
          have HX := hid (HXF1.out.2 x (List.mem_of_getElem? hx))
          have hk2l : (k2 : Int) < (xs.length : Int) := by omega
          have hk2b : k2 ≤ 9223372036854775806 := by have := HXF1.out.1; omega
          have HBL2 := hid (HXL1.out k2)
          have HPY := hid (fun m u (h22 : x.op = 22) h1 h2 => prL_yes (b := j) (m := m) (x := x) (u := u) h22 h1 h2)
          have HPN := hid (fun m c u h1 h2 h3 => prL_no (b := j) (m := m) (x := x) (c := c) (u := u) h1 h2 h3)
          have HPZ := hid (prL_zero j x)
          have HPL := hid (fun m => prL_len j m x)
          clear hx i0 i1 i2 i3 i4 i5 i6 ja jf hkt
          obtain ⟨xop, xty, xa1, xb1, xn1, xar, xfr⟩ := x
          simp only at *
          obtain ⟨Bq, hBq⟩ : ∃ Bq, Bq = A ++ insL j (xs.take k2) := ⟨_, rfl⟩
          have HBE := hid hBq
          have HBQ : Hid (Bq.length ≤ 90000) := by
            show _ ≤ _
            rw [hBq, List.length_append]
            have := HAL2.out; have := HBL2.out
            omega
          rw [← hBq] at HOWN
          rw [← hBq]
          obtain ⟨W6, hW6⟩ : ∃ W6, W6 = wr.alloc (.cells #[.int .u8 xop, .int .i64 xty, .int .i64 xa1, .int .i64 xb1, .int .i64 xn1, .slice aa xar.length ac, .slice fa2 xfr.length fc2] 49) := ⟨_, rfl⟩
          have hb6 : Below wr.heap.size wr W6 := by rw [hW6]; exact alloc_below _ _
          have k6 : W6.heap[wr.heap.size]? = some (.cells #[.int .u8 xop, .int .i64 xty, .int .i64 xa1, .int .i64 xb1, .int .i64 xn1, .slice aa xar.length ac, .slice fa2 xfr.length fc2] 49 (0, 0)) := by rw [hW6]; exact TyD.alloc_new _ _
          have HO6 := hid (ownsRow_below HOWN.out hb6)
          have HA6 := hid (hA.go hb6)
          have HW6 := hid hW6
          have HK6 := hid k6
          have m5 := later_cells k6 5 _ rfl W6 (Aft.refl _); have m6 := later_cells k6 6 _ rfl W6 (Aft.refl _)
          clear hBq hW6 hb6 k6 HOWN
          obtain ⟨g2, hg2⟩ : ∃ g2 : Nat, g2 = gk := ⟨gk, rfl⟩
          subst hg2
          go_upto_region 8 with fail
          rw [← HW6.out]
          obtain ⟨bx, hbx⟩ : ∃ bx, bx = wr.heap.size := ⟨_, rfl⟩
          rw [← hbx] at HK6 m5 m6
          rw [← hbx]
          clear hbx hA u0 u1 u2 u3 u4 u5 u6 HW6
          go_wp2_with fail
          go_loopg [7, 33] xfr.length (fun gk u mv wr => ∃ m : Nat, m + gk = xfr.length ∧ mv = .int .i64 m ∧ wr.ownsRow w.heap.size 3 1 u (Bq ++ prL j m ⟨xop, xty, xa1, xb1, xn1, xar, xfr⟩).length (intVals (Bq ++ prL j m ⟨xop, xty, xa1, xb1, xn1, xar, xfr⟩)) ∧ Aft w wr ∧ wr.heap[bx]? = some (.cells #[.int .u8 xop, .int .i64 xty, .int .i64 xa1, .int .i64 xb1, .int .i64 xn1, .slice aa xar.length ac, .slice fa2 xfr.length fc2] 49 (0, 0)))
          case atStart => exact ⟨0, by omega, rfl, by rw [HPZ.out, List.append_nil]; exact HO6.out, HA6.out, HK6.out⟩
          case round =>
            obtain ⟨m, hm, rfl, hown, hA3, hbox⟩ := hrel
            have HM := hid hm
            have HPL1 := hid (HPL.out m)
            obtain ⟨C, hC⟩ : ∃ C, C = Bq ++ prL j m ⟨xop, xty, xa1, xb1, xn1, xar, xfr⟩ := ⟨_, rfl⟩
            have HCE := hid hC
            have HCL3 : Hid (C.length ≤ 100000) := by
              show _ ≤ _
              rw [hC, List.length_append]
              have := HBQ.out; have := HPL1.out; have := HX.out.1
              omega
            rw [← hC] at hown
            have HOWN3 := hid hown
            have HBOX := hid hbox
            obtain ⟨ua3, uc3, rfl⟩ := own_slice hown
            clear hm hown HO6 HA6 HK6 hC HPL1 m5 m6
            by_cases hmt : m < xfr.length
            · have HMT := hid hmt
              have h22 : xop = 22 := by
                refine Classical.byContradiction fun e => ?_
                have := HX.out.2.2.2 e
                rw [this] at hmt
                exact absurd hmt (by simp)
              have hal := HX.out.2.2.1 h22
              have hma : m < xar.length := by omega
              obtain ⟨cf, hcf⟩ := some_at hmt
              obtain ⟨ca, hca⟩ := some_at hma
              obtain ⟨bf, of, rfl, cf0⟩ := int_at (HJF.out wr hA3) hcf
              obtain ⟨ba, oa, rfl, ca0⟩ := int_at (HJA.out wr hA3) hca
              have HPN1 := hid (HPN.out m cf ca hcf hca)
              have HPY1 := hid (fun (e : cf = (j : Int)) => HPY.out m ca h22 (e ▸ hcf) hca)
              have m5 := later_cells hbox 5 _ rfl wr (Aft.refl _)
              have hmb : m ≤ 9223372036854775806 := by have := HX.out.1; omega
              have hml : (m : Int) < (xfr.length : Int) := by omega
              have hml2 : (m : Int) < (xar.length : Int) := by omega
              clear hcf hca h22 hal HPY HPN hbox hmt hma
              by_cases hcj : cf = (j : Int)
              · have HP3 := hid (HPY1.out hcj)
                have ecj : (cf == (j : Int)) = true := by simpa using hcj
                clear hcj HPY1 HPN1
                have HO4 := hid (HOWN3.out.alloc (.cells #[.int .i64 ca] 3))
                have HI4 := hid (ints_one (w := wr.alloc (.cells #[.int .i64 ca] 3)) (b := wr.heap.size) (n := ca) (cell_new _ _ _ _ rfl) (size_new _ _ _ rfl))
                have hA4 := hA3.alloc (.cells #[.int .i64 ca] 3)
                have hsz4 : w.heap.size ≤ (wr.alloc (.cells #[.int .i64 ca] 3)).heap.size := hA4.size
                have hn4 := HCL3.out
                go_wp2_with (at_builtin; refine wpList_append_ints rfl (.tmp 41) (.tmp 47) rfl w.heap.size (.slice ua3 C.length uc3) rfl C.length (intVals C) HO4.out hn4 (.slice (some ⟨wr.heap.size, 0, none⟩) 1 1) [ca] rfl HI4.out (by simp) hsz4 ?_)
                intro v9 w9 hown9 hgr9
                have HA9 : Hid (Aft w w9) := by
                  show Aft w w9
                  exact hA4.below.grown hgr9 hsz4 fun q hq => (HO4.out.lt q hq).1
                have HB9 : Hid (w9.heap[bx]? = some (.cells #[.int .u8 xop, .int .i64 xty, .int .i64 xa1, .int .i64 xb1, .int .i64 xn1, .slice (some ⟨ba, oa, none⟩) xar.length ac, .slice (some ⟨bf, of, none⟩) xfr.length fc2] 49 (0, 0))) := by
                  have h1 := (alloc_below wr (.cells #[.int .i64 ca] 3)).block bx (Array.getElem?_eq_some_iff.1 HBOX.out).1
                  have h2 := h1.trans HBOX.out
                  exact (hgr9.block bx (Array.getElem?_eq_some_iff.1 h2).1 (fun e => row_box HO4.out h2 (by decide) e.symm)).trans h2
                have HO9 : Hid (w9.ownsRow w.heap.size 3 1 v9 (Bq ++ prL j (m + 1) ⟨xop, xty, xa1, xb1, xn1, xar, xfr⟩).length (intVals (Bq ++ prL j (m + 1) ⟨xop, xty, xa1, xb1, xn1, xar, xfr⟩))) := by
                  show World.ownsRow _ _ _ _ _ _ _
                  rw [HP3.out, ← List.append_assoc, ← HCE.out, intVals_append, List.length_append]
                  exact hown9
                obtain ⟨xa9, xc9, rfl⟩ := own_slice hown9
                clear hown9 hgr9 HO4 HI4 hsz4 hn4 hA4 m5
                go_wp2
                go_roundg (gk - 1)
                case measure => have := HM.out; have := HMT.out; omega
                case rel => exact ⟨m + 1, by have := HM.out; have := HMT.out; omega, by go_num, HO9.out, HA9.out, HB9.out⟩
              · have HP3 := hid (HPN1.out hcj)
                have ecj : (cf == (j : Int)) = false := by simpa using hcj
                clear hcj HPY1 HPN1
                have HA9 := hid hA3
                go_wp2
                go_roundg (gk - 1)
                case measure => have := HM.out; have := HMT.out; omega
                case rel => exact ⟨m + 1, by have := HM.out; have := HMT.out; omega, by go_num, by rw [HP3.out, ← HCE.out]; exact HOWN3.out, HA9.out, HBOX.out⟩
            · obtain rfl : m = xfr.length := by have := HM.out; omega
              have HO9 : Hid (wr.ownsRow w.heap.size 3 1 (.slice ua3 C.length uc3) (A ++ insL j (xs.take (k2 + 1))).length (intVals (A ++ insL j (xs.take (k2 + 1))))) := by
                show World.ownsRow _ _ _ _ _ _ _
                have e : A ++ insL j (xs.take (k2 + 1)) = C := by rw [HIS.out, ← List.append_assoc, ← HBE.out, HCE.out]
                rw [e]
                exact HOWN3.out
              have HA9 := hid hA3
              clear hmt HOWN3 hbox
              go_wp2
              go_roundg (g2 - 1)
              case measure => have := HK2.out; have := HKT.out; omega
              case rel => exact ⟨k2 + 1, by have := HK2.out; have := HKT.out; omega, by go_num, HO9.out, HA9.out⟩
        · obtain rfl : k2 = xs.length := by have := HK2.out; omega
          have HO9 : Hid (wr.ownsRow w.heap.size 3 1 (.slice ua2 (A ++ insL j (xs.take xs.length)).length uc2) (phL j bl (tl.take (i + 1))).length (intVals (phL j bl (tl.take (i + 1))))) := by
            show World.ownsRow _ _ _ _ _ _ _
            have e : phL j bl (tl.take (i + 1)) = A ++ insL j (xs.take xs.length) := by rw [HGS1.out, HAE.out, List.take_length]
            rw [e]
            exact HOWN.out
          have HA9 := hid hA
          clear hkt HOWN
          go_wp2
          go_roundg (g1 - 1)
          case measure => have := HI.out; have := HIT.out; omega
          case rel => exact ⟨i + 1, by have := HI.out; have := HIT.out; omega, by go_num, HO9.out, HA9.out⟩
    · obtain rfl : i = tl.length := by have := HI.out; omega
      rw [HPE.out] at HOWN HG1
      have HSC := hid (set_c _ _ wr (intsAt_of_owns HOWN.out (by have := HG1.out; omega)))
      have HFIN := hid hA
      rw [HPE.out]
      clear hit HOWN hA HGS HGN HV
      go_wp2_with fail
      refine HSC.out.mono ?_
      rintro e w2 ⟨u2, rfl, hu2, hb2⟩
      obtain ⟨ua9, uc9, rfl⟩ := RwO.own_form hu2
      have HU := hid (LiC.newSt_base hu2 HFIN.out.size)
      have HE := hid (HFIN.out.go hb2)
      clear HSC hu2 hb2
      go_wp2
      go_ret
      exact ⟨_, rfl, HU.out, HE.out⟩
end Go.Proofs.YtkcocgdgmlmflaaGreatDoor.LiD
namespace Go.Proofs.YtkcocgdgmlmflaaGreatDoor.ShRA
open Go.RowKit Go.Lib SetP IntO TyM TyP TyB TyC TyD TyRA ShM ShP ShA ShB ShC ShE

set_option maxHeartbeats 400000 in
theorem belowR_calls (m : Int) (v : Value) (l : List Int) (w : World) (hl : IntsAt w v l) :
    Calls Tryz.prog 108 #[v, .int .i64 m] w (BoolR (lowB m l) w) := by
  have HL := hid hl
  obtain ⟨ao, cap, rfl, hlen⟩ := ints_slice hl
  clear hl
  have HBAD := hid (fun k (hk : k < l.length) => all_bad (p := fun n => decide (0 ≤ n ∧ n < m)) hk)
  have HSUC := hid (fun k (hk : k < l.length) => all_succ (p := fun n => decide (0 ≤ n ∧ n < m)) hk)
  have HD : Hid (lowB m l = l.all fun n => decide (0 ≤ n ∧ n < m)) := rfl
  go_enter Tryz.func108, Tryz.ntmps108
  go_wp2
  go_loop [5] (fun i => ∃ k : Nat, k ≤ l.length ∧ i = .int .i64 k ∧ ((l.take k).all fun n => decide (0 ≤ n ∧ n < m)) = true) (fun i => l.length - (intOf i).toNat)
  case atStart => exact ⟨0, by omega, rfl, rfl⟩
  case round =>
    obtain ⟨k, hk, rfl, hall⟩ := hrel
    have HA := hid hall
    clear hall
    by_cases hlt : k < l.length
    · obtain ⟨b, off, rfl, hbs, hc⟩ := TyP.ints_at HL.out k hlt
      have H1 := hid (HBAD.out k hlt)
      have H2 := hid (HSUC.out k hlt HA.out)
      generalize l[k] = n at *
      by_cases h0 : n < 0
      · have HE := hid (H1.out (decide_eq_false (by omega)))
        go_wp2
        go_ret
        exact ⟨by rw [HD.out, HE.out]; rfl, Below.refl _ _⟩
      by_cases h1 : m ≤ n
      · have HE := hid (H1.out (decide_eq_false (by omega)))
        go_wp2
        go_ret
        exact ⟨by rw [HD.out, HE.out]; rfl, Below.refl _ _⟩
      have HE := hid (H2.out (decide_eq_true (by omega)))
      go_wp2
      go_round
      case rel => exact ⟨k + 1, by omega, by go_num, HE.out⟩
      case measure => simp [intOf]; omega
    · obtain rfl : k = l.length := by omega
      go_wp2
      go_ret
      exact ⟨by rw [HD.out]; have := HA.out; rw [List.take_length] at this; rw [this]; rfl, Below.refl _ _⟩
end Go.Proofs.YtkcocgdgmlmflaaGreatDoor.ShRA

namespace Go.Proofs.YtkcocgdgmlmflaaGreatDoor.ShRB
open Go.RowKit Go.Lib RwO SetP IntO TyM TyP TyB TyC TyRA ShM ShP ShA ShB ShC ShE ShRA

/-- a cell, in every world behind -/
theorem later {W : World} {n : Nat} {a : Addr} {v : Value} (h : W.cell? a = some v) (hn : a.block < n) : ∀ w', Below n W w' → w'.cell? a = some v := fun _ hb => (hb.cell hn).trans h
theorem two_below (w : World) (a b : Obj) : Below w.heap.size w ((w.alloc a).alloc b) := (alloc_below _ _).alloc (by simp) _

set_option maxRecDepth 100000 in
set_option maxHeartbeats 4000000 in
theorem mayN_calls (x : Ix) (vt : Value) (fa : Option Addr) (nf fc : Nat) (va vf : Value) (w : World) (hvt : ∃ a n c, vt = .slice a n c) (hva : ∃ a n c, va = .slice a n c) (hvf : ∃ a n c, vf = .slice a n c) :
    Calls Tryz.prog 109 #[.agg #[vt, .slice fa nf fc], ixV x va vf] w (BoolR (mayNR nf x) w) := by
  obtain ⟨a1, n1, c1, rfl⟩ := hvt
  obtain ⟨a2, n2, c2, rfl⟩ := hva
  obtain ⟨a3, n3, c3, rfl⟩ := hvf
  obtain ⟨op, typ, xa, xb, xn, al, fl⟩ := x
  have hb0 := two_below w (.cells #[.slice a1 n1 c1, .slice fa nf fc] 25) (.cells #[.int .u8 op, .int .i64 typ, .int .i64 xa, .int .i64 xb, .int .i64 xn, .slice a2 n2 c2, .slice a3 n3 c3] 49)
  unfold mayNR
  simp only
  by_cases h1 : op = 1
  · rw [if_pos h1]
    subst h1
    go_enter Tryz.func109, Tryz.ntmps109
    go_wp2
    go_ret
    exact ⟨rfl, hb0⟩
  rw [if_neg h1]
  have e1 : (op == 1) = false := by simpa using h1
  by_cases h3 : op = 3 ∨ op = 18
  · rw [if_pos h3]
    have e3 : (op == 3) = true ∨ ((op == 3) = false ∧ (op == 18) = true) := by simp; omega
    clear h3 h1
    by_cases h4 : 0 ≤ xn
    · by_cases h5 : xn < nf
      · rw [decide_eq_true ⟨h4, h5⟩]
        rcases e3 with e3 | ⟨e3, e4⟩
        · go_enter Tryz.func109, Tryz.ntmps109
          go_wp2
          go_ret
          exact ⟨rfl, hb0⟩
        · go_enter Tryz.func109, Tryz.ntmps109
          go_wp2
          go_ret
          exact ⟨rfl, hb0⟩
      · rw [decide_eq_false (fun h => h5 h.2)]
        rcases e3 with e3 | ⟨e3, e4⟩
        · go_enter Tryz.func109, Tryz.ntmps109
          go_wp2
          go_ret
          exact ⟨rfl, hb0⟩
        · go_enter Tryz.func109, Tryz.ntmps109
          go_wp2
          go_ret
          exact ⟨rfl, hb0⟩
    · rw [decide_eq_false (fun h => h4 h.1)]
      rcases e3 with e3 | ⟨e3, e4⟩
      · go_enter Tryz.func109, Tryz.ntmps109
        go_wp2
        go_ret
        exact ⟨rfl, hb0⟩
      · go_enter Tryz.func109, Tryz.ntmps109
        go_wp2
        go_ret
        exact ⟨rfl, hb0⟩
  rw [if_neg h3]
  have e3 : (op == 3) = false := by simp; omega
  have e18 : (op == 18) = false := by simp; omega
  by_cases h14 : op = 14
  · rw [if_pos h14]
    subst h14
    clear h1 h3
    by_cases h4 : 0 ≤ xn
    · by_cases h5 : xn < 8
      · rw [decide_eq_true ⟨h4, h5⟩]
        go_enter Tryz.func109, Tryz.ntmps109
        go_wp2
        go_ret
        exact ⟨rfl, hb0⟩
      · rw [decide_eq_false (fun h => h5 h.2)]
        go_enter Tryz.func109, Tryz.ntmps109
        go_wp2
        go_ret
        exact ⟨rfl, hb0⟩
    · rw [decide_eq_false (fun h => h4 h.1)]
      go_enter Tryz.func109, Tryz.ntmps109
      go_wp2
      go_ret
      exact ⟨rfl, hb0⟩
  rw [if_neg h14]
  have e14 : (op == 14) = false := by simpa using h14
  clear h1 h3 h14
  have hd : (xn == 0) = decide (xn = 0) := by rw [Bool.eq_iff_iff]; simp
  go_enter Tryz.func109, Tryz.ntmps109
  go_wp2
  go_ret
  exact ⟨by simp, hb0⟩

set_option maxRecDepth 100000 in
set_option maxHeartbeats 4000000 in
theorem mayIns_calls (x : Ix) (ta : Option Addr) (nt tc : Nat) (fa : Option Addr) (nf fc : Nat) (nr nb : Int) (va vf : Value) (w : World) (h0 : 0 ≤ x.op ∧ x.op ≤ 255) (ha : IntsAt w va x.args) (hf : IntsAt w vf x.frm) (hla : x.args.length ≤ 20000) :
    Calls Tryz.prog 103 #[.agg #[.slice ta nt tc, .slice fa nf fc], ixV x va vf, .int .i64 nr, .int .i64 nb] w (BoolR (mayIR nt nr nf nb x) w) := by
  have hb0 := two_below w (.cells #[.slice ta nt tc, .slice fa nf fc] 25) (.cells #[.int .u8 x.op, .int .i64 x.typ, .int .i64 x.a, .int .i64 x.b, .int .i64 x.n, va, vf] 49)
  obtain ⟨W0, hW0⟩ : ∃ W0, W0 = (w.alloc (.cells #[.slice ta nt tc, .slice fa nf fc] 25)).alloc (.cells #[.int .u8 x.op, .int .i64 x.typ, .int .i64 x.a, .int .i64 x.b, .int .i64 x.n, va, vf] 49) := ⟨_, rfl⟩
  obtain ⟨n0, hn0⟩ : ∃ n0, n0 = W0.heap.size := ⟨_, rfl⟩
  have hn2 : n0 = w.heap.size + 2 := by rw [hn0, hW0]; simp only [World.size_alloc]
  have hbW : Below w.heap.size w W0 := by rw [hW0]; exact hb0
  have k1 : W0.heap[w.heap.size]? = some (.cells #[.slice ta nt tc, .slice fa nf fc] 25 (0, 0)) := by rw [hW0]; exact alloc_old (alloc_new _ _) _
  have k2 : W0.heap[w.heap.size + 1]? = some (.cells #[.int .u8 x.op, .int .i64 x.typ, .int .i64 x.a, .int .i64 x.b, .int .i64 x.n, va, vf] 49 (0, 0)) := by
    rw [hW0]
    have := alloc_new (w.alloc (.cells #[.slice ta nt tc, .slice fa nf fc] 25)) (.cells #[.int .u8 x.op, .int .i64 x.typ, .int .i64 x.a, .int .i64 x.b, .int .i64 x.n, va, vf] 49)
    rwa [World.size_alloc] at this
  obtain ⟨c1, _⟩ := ShTB.cells_heap k1
  obtain ⟨c2, _⟩ := ShTB.cells_heap k2
  have p0 := c1 0 (by simp); have p1 := c1 1 (by simp)
  have q0 := c2 0 (by simp); have q1 := c2 1 (by simp); have q2 := c2 2 (by simp); have q3 := c2 3 (by simp); have q4 := c2 4 (by simp); have q5 := c2 5 (by simp); have q6 := c2 6 (by simp)
  simp only [List.getElem_toArray, List.getElem_cons_succ, List.getElem_cons_zero] at p0 p1 q0 q1 q2 q3 q4 q5 q6
  have l0 := later (n := n0) p0 (by show w.heap.size < n0; omega); have l1 := later (n := n0) p1 (by show w.heap.size < n0; omega)
  have m0 := later (n := n0) q0 (by show w.heap.size + 1 < n0; omega); have m1 := later (n := n0) q1 (by show w.heap.size + 1 < n0; omega); have m2 := later (n := n0) q2 (by show w.heap.size + 1 < n0; omega); have m3 := later (n := n0) q3 (by show w.heap.size + 1 < n0; omega); have m4 := later (n := n0) q4 (by show w.heap.size + 1 < n0; omega); have m5 := later (n := n0) q5 (by show w.heap.size + 1 < n0; omega); have m6 := later (n := n0) q6 (by show w.heap.size + 1 < n0; omega)
  have hff : ∃ a n c, vf = .slice a n c := by obtain ⟨a, c, h, _⟩ := ints_slice hf; exact ⟨_, _, _, h⟩
  have haf : ∃ a n c, va = .slice a n c := by obtain ⟨a, c, h, _⟩ := ints_slice ha; exact ⟨_, _, _, h⟩
  have HU := hid (ShV.usesR_calls x va vf W0 h0.1 h0.2 (ha.below hbW) hla hff)
  have HB := hid (fun (wx : World) (v : Value) (hv : IntsAt wx v (usesOf x)) => belowR_calls nr v (usesOf x) wx hv)
  have HN := hid (fun wx => mayN_calls x (.slice ta nt tc) fa nf fc va vf wx ⟨_, _, _, rfl⟩ haf hff)
  have HA := hid (fun wx => hasA_calls x.op h0.1 h0.2 wx)
  have HT := hid (fun wx => two_calls x.op h0.1 h0.2 wx)
  have HG := hid (fun wx => hasArgs_calls x.op h0.1 h0.2 wx)
  have HW := hid (fun wx => answersR_calls x.op h0.1 h0.2 wx)
  have HF := hid (fun wx (hb : Below n0 W0 wx) => belowR_calls nb vf x.frm wx ((hf.below hbW).below (by rw [← hn0]; exact hb)))
  have HD : Hid (mayIR nt nr nf nb x = if x.op < 1 ∨ 22 < x.op ∨ lowB nr (usesOf x) = false ∨ mayNR nf x = false then false
    else if (hasAB x.op = false ∧ x.a ≠ 0) ∨ (twoB x.op = false ∧ x.b ≠ 0) ∨ (argsB x.op = false ∧ 0 < x.args.length) then false
    else if (answersB x.op = true ∧ (x.typ < 0 ∨ (nt : Int) ≤ x.typ)) ∨ (answersB x.op = false ∧ x.typ ≠ 0) then false
    else if x.op = 22 then decide (x.frm.length = x.args.length ∧ 1 ≤ x.frm.length ∧ x.frm.length ≤ 16) && lowB nb x.frm
    else decide (x.frm.length = 0 ∧ x.args.length ≤ 4)) := rfl
  obtain ⟨aa, ac, rfl, _⟩ := ints_slice ha
  obtain ⟨ba, bc, rfl, _⟩ := ints_slice hf
  generalize mayIR nt nr nf nb x = ans at *
  generalize usesOf x = L at *
  generalize lowB nr L = U at *
  generalize mayNR nf x = N at *
  generalize hasAB x.op = A at *
  generalize twoB x.op = T at *
  generalize argsB x.op = G at *
  generalize answersB x.op = AN at *
  generalize lowB nb x.frm = F at *
  obtain ⟨op, typ, xa, xb, xn, al, fl⟩ := x
  simp only at *
  generalize al.length = la at *
  generalize fl.length = lf at *
  have HBW := hid hbW
  have HN0 := hid hn0
  have HN2 := hid hn2
  have h00 := Below.refl n0 W0
  have HK1 := hid k1
  have HW0 := hid hW0
  clear hW0 ha hf hla c1 c2 p0 p1 q0 q1 q2 q3 q4 q5 q6 hbW hn0 hn2 k1 k2 hb0 hff haf
  by_cases o1 : op < 1
  · rw [if_pos (Or.inl o1)] at HD
    go_enter Tryz.func103, Tryz.ntmps103
    go_wp2
    go_ret
    exact ⟨by rw [HD.out]; rfl, by rw [← HW0.out]; exact HBW.out⟩
  by_cases o2 : 22 < op
  · rw [if_pos (Or.inr (Or.inl o2))] at HD
    go_enter Tryz.func103, Tryz.ntmps103
    go_wp2
    go_ret
    exact ⟨by rw [HD.out]; rfl, by rw [← HW0.out]; exact HBW.out⟩
  cases U with
  | false =>
    rw [if_pos (Or.inr (Or.inr (Or.inl rfl)))] at HD
    go_enter Tryz.func103, Tryz.ntmps103
    go_wp2_with fail
    rw [← HW0.out]
    refine HU.out.mono ?_
    rintro e w1 ⟨u, m, rfl, hown, hb1⟩
    have h01 : Below n0 W0 w1 := by rw [HN0.out]; exact hb1
    have HB1 := hid (HB.out w1 u (intsAt_of_owns hown (by have := own_len hown; have := hown.1; rw [intVals_length] at this; omega)))
    obtain ⟨ua, uc, rfl⟩ := own_form hown
    clear hown hb1 HU
    go_wp2_with fail
    refine HB1.out.mono ?_
    rintro e w2 ⟨rfl, hb2⟩
    have h02 := h01.trans (hb2.mono (by have := h01.size; have := HN0.out; omega))
    clear hb2 HB1
    go_wp2
    go_ret
    exact ⟨by rw [HD.out]; rfl, HBW.out.trans (h02.mono (by have := HN2.out; omega))⟩
  | true =>
    cases N with
    | false =>
      rw [if_pos (Or.inr (Or.inr (Or.inr rfl)))] at HD
      go_enter Tryz.func103, Tryz.ntmps103
      go_wp2_with fail
      rw [← HW0.out]
      refine HU.out.mono ?_
      rintro e w1 ⟨u, m, rfl, hown, hb1⟩
      have h01 : Below n0 W0 w1 := by rw [HN0.out]; exact hb1
      have HB1 := hid (HB.out w1 u (intsAt_of_owns hown (by have := own_len hown; have := hown.1; rw [intVals_length] at this; omega)))
      obtain ⟨ua, uc, rfl⟩ := own_form hown
      clear hown hb1 HU
      go_wp2_with fail
      refine HB1.out.mono ?_
      rintro e w2 ⟨rfl, hb2⟩
      have h02 := h01.trans (hb2.mono (by have := h01.size; have := HN0.out; omega))
      clear hb2 HB1
      go_wp2_with fail
      refine (HN.out w2).mono ?_
      rintro e w3 ⟨rfl, hb3⟩
      have h03 := h02.trans (hb3.mono (by have := h02.size; have := HN0.out; omega))
      clear hb3 HN
      go_wp2
      go_ret
      exact ⟨by rw [HD.out]; rfl, HBW.out.trans (h03.mono (by have := HN2.out; omega))⟩
    | true =>
    rw [if_neg (by simp; omega)] at HD
    go_enter Tryz.func103, Tryz.ntmps103
    go_wp2_with fail
    rw [← HW0.out]
    refine HU.out.mono ?_
    rintro e w1 ⟨u, m, rfl, hown, hb1⟩
    have h01 : Below n0 W0 w1 := by rw [HN0.out]; exact hb1
    have HB1 := hid (HB.out w1 u (intsAt_of_owns hown (by have := own_len hown; have := hown.1; rw [intVals_length] at this; omega)))
    obtain ⟨ua, uc, rfl⟩ := own_form hown
    clear hown hb1 HU
    go_wp2_with fail
    refine HB1.out.mono ?_
    rintro e w2 ⟨rfl, hb2⟩
    have h02 := h01.trans (hb2.mono (by have := h01.size; have := HN0.out; omega))
    clear hb2 HB1
    go_wp2_with fail
    refine (HN.out w2).mono ?_
    rintro e w3 ⟨rfl, hb3⟩
    have h03 := h02.trans (hb3.mono (by have := h02.size; have := HN0.out; omega))
    clear hb3 HN
    go_upto_region 3 with fail
    obtain ⟨q1, hq1⟩ : ∃ q : Bool, q = ((!A && (xa != 0)) || ((!T && (xb != 0)) || (!G && decide (0 < la)))) := ⟨_, rfl⟩
    have HQ1 := hid hq1
    clear hq1
    go_cut [61] (fun p wc => p = .bool q1 ∧ w3 = wc)
    case first =>
      clear HD HF HN2
      have hA3 : (A = true ∨ (A = false ∧ (xa != 0) = false)) ∨ (A = false ∧ (xa != 0) = true) := by cases A <;> cases (xa != 0) <;> simp
      have hT3 : (T = true ∨ (T = false ∧ (xb != 0) = false)) ∨ (T = false ∧ (xb != 0) = true) := by cases T <;> cases (xb != 0) <;> simp
      have hG3 : (G = true ∨ (G = false ∧ ¬ (0 : Int) < la)) ∨ (G = false ∧ (0 : Int) < la) := by cases G <;> simp; omega
      rcases hA3 with hA | ⟨rfl, hxa⟩
      · rcases hT3 with hT | ⟨rfl, hxb⟩
        · rcases hA with rfl | ⟨rfl, hxa⟩ <;> rcases hT with rfl | ⟨rfl, hxb⟩ <;> rcases hG3 with (rfl | ⟨rfl, hl⟩) | ⟨rfl, hl⟩ <;> (go_wp2_with (first | (go_at_call 61; refine (HA.out _).mono ?_; rintro e w4 ⟨rfl, rfl⟩) | (go_at_call 62; refine (HT.out _).mono ?_; rintro e w4 ⟨rfl, rfl⟩) | (go_at_call 63; refine (HG.out _).mono ?_; rintro e w4 ⟨rfl, rfl⟩) | (go_at_call 110; refine (HW.out _).mono ?_; rintro e w4 ⟨rfl, rfl⟩))) <;> (go_meet; case rel => exact ⟨congrArg Value.bool (by rw [HQ1.out]; simp [*]; try omega), rfl⟩)
        · clear hG3
          rcases hA with rfl | ⟨rfl, hxa⟩ <;> (go_wp2_with (first | (go_at_call 61; refine (HA.out _).mono ?_; rintro e w4 ⟨rfl, rfl⟩) | (go_at_call 62; refine (HT.out _).mono ?_; rintro e w4 ⟨rfl, rfl⟩) | (go_at_call 63; refine (HG.out _).mono ?_; rintro e w4 ⟨rfl, rfl⟩) | (go_at_call 110; refine (HW.out _).mono ?_; rintro e w4 ⟨rfl, rfl⟩))) <;> (go_meet; case rel => exact ⟨congrArg Value.bool (by rw [HQ1.out]; simp [*]), rfl⟩)
      · clear hT3 hG3
        go_wp2_with (first | (go_at_call 61; refine (HA.out _).mono ?_; rintro e w4 ⟨rfl, rfl⟩) | (go_at_call 62; refine (HT.out _).mono ?_; rintro e w4 ⟨rfl, rfl⟩) | (go_at_call 63; refine (HG.out _).mono ?_; rintro e w4 ⟨rfl, rfl⟩) | (go_at_call 110; refine (HW.out _).mono ?_; rintro e w4 ⟨rfl, rfl⟩))
        go_meet
        case rel => exact ⟨congrArg Value.bool (by rw [HQ1.out]; simp [*]), rfl⟩
    case rest =>
      obtain ⟨rfl, rfl⟩ := hcut
      cases q1 with
      | true =>
        have hq : (A = false ∧ xa ≠ 0) ∨ (T = false ∧ xb ≠ 0) ∨ (G = false ∧ 0 < la) := by have := HQ1.out; simpa using this
        rw [if_pos hq] at HD
        clear hq
        go_wp2 <;> first | (exfalso; omega) | (go_ret; exact ⟨by rw [HD.out]; rfl, HBW.out.trans (h03.mono (by have := HN2.out; omega))⟩)
      | false =>
      have hq : ¬ ((A = false ∧ xa ≠ 0) ∨ (T = false ∧ xb ≠ 0) ∨ (G = false ∧ 0 < la)) := fun h => by
        have := HQ1.out
        cases A <;> cases T <;> cases G <;> simp at this h <;> omega
      rw [if_neg hq] at HD
      clear hq HQ1
      go_upto_region 5 with fail
      obtain ⟨q2, hq2⟩ : ∃ q : Bool, q = ((AN && (decide (typ < 0) || decide ((nt : Int) ≤ typ))) || (!AN && (typ != 0))) := ⟨_, rfl⟩
      have HQ2 := hid hq2
      clear hq2
      go_cut [88] (fun p wc => p = .bool q2 ∧ w3 = wc)
      case first =>
        clear HD HF HN2
        cases AN with
        | true =>
          by_cases t0 : typ < 0
          · (go_wp2_with (first | (go_at_call 61; refine (HA.out _).mono ?_; rintro e w4 ⟨rfl, rfl⟩) | (go_at_call 62; refine (HT.out _).mono ?_; rintro e w4 ⟨rfl, rfl⟩) | (go_at_call 63; refine (HG.out _).mono ?_; rintro e w4 ⟨rfl, rfl⟩) | (go_at_call 110; refine (HW.out _).mono ?_; rintro e w4 ⟨rfl, rfl⟩))) <;> first | (exfalso; omega) | (go_meet; case rel => exact ⟨congrArg Value.bool (by rw [HQ2.out]; simp [*]), rfl⟩)
          · by_cases t1 : (nt : Int) ≤ typ
            · (go_wp2_with (first | (go_at_call 61; refine (HA.out _).mono ?_; rintro e w4 ⟨rfl, rfl⟩) | (go_at_call 62; refine (HT.out _).mono ?_; rintro e w4 ⟨rfl, rfl⟩) | (go_at_call 63; refine (HG.out _).mono ?_; rintro e w4 ⟨rfl, rfl⟩) | (go_at_call 110; refine (HW.out _).mono ?_; rintro e w4 ⟨rfl, rfl⟩))) <;> first | (exfalso; omega) | (go_meet; case rel => exact ⟨congrArg Value.bool (by rw [HQ2.out]; simp [*]), rfl⟩)
            · (go_wp2_with (first | (go_at_call 61; refine (HA.out _).mono ?_; rintro e w4 ⟨rfl, rfl⟩) | (go_at_call 62; refine (HT.out _).mono ?_; rintro e w4 ⟨rfl, rfl⟩) | (go_at_call 63; refine (HG.out _).mono ?_; rintro e w4 ⟨rfl, rfl⟩) | (go_at_call 110; refine (HW.out _).mono ?_; rintro e w4 ⟨rfl, rfl⟩))) <;> first | (exfalso; omega) | (go_meet; case rel => exact ⟨congrArg Value.bool (by rw [HQ2.out]; simp; omega), rfl⟩)
        | false =>
          cases ht : (typ != 0) with
          | true =>
            (go_wp2_with (first | (go_at_call 61; refine (HA.out _).mono ?_; rintro e w4 ⟨rfl, rfl⟩) | (go_at_call 62; refine (HT.out _).mono ?_; rintro e w4 ⟨rfl, rfl⟩) | (go_at_call 63; refine (HG.out _).mono ?_; rintro e w4 ⟨rfl, rfl⟩) | (go_at_call 110; refine (HW.out _).mono ?_; rintro e w4 ⟨rfl, rfl⟩))) <;> first | (exfalso; omega) | (go_meet; case rel => exact ⟨congrArg Value.bool (by rw [HQ2.out, ht]; rfl), rfl⟩)
          | false =>
            (go_wp2_with (first | (go_at_call 61; refine (HA.out _).mono ?_; rintro e w4 ⟨rfl, rfl⟩) | (go_at_call 62; refine (HT.out _).mono ?_; rintro e w4 ⟨rfl, rfl⟩) | (go_at_call 63; refine (HG.out _).mono ?_; rintro e w4 ⟨rfl, rfl⟩) | (go_at_call 110; refine (HW.out _).mono ?_; rintro e w4 ⟨rfl, rfl⟩))) <;> first | (exfalso; omega) | (go_meet; case rel => exact ⟨congrArg Value.bool (by rw [HQ2.out, ht]; rfl), rfl⟩)
      case rest =>
        obtain ⟨rfl, rfl⟩ := hcut
        cases q2 with
        | true =>
          have hq : (AN = true ∧ (typ < 0 ∨ (nt : Int) ≤ typ)) ∨ (AN = false ∧ typ ≠ 0) := by have := HQ2.out; simpa using this
          rw [if_pos hq] at HD
          clear hq
          go_wp2 <;> first | (exfalso; omega) | (go_ret; exact ⟨by rw [HD.out]; rfl, HBW.out.trans (h03.mono (by have := HN2.out; omega))⟩)
        | false =>
        have hq : ¬ ((AN = true ∧ (typ < 0 ∨ (nt : Int) ≤ typ)) ∨ (AN = false ∧ typ ≠ 0)) := fun h => by
          have := HQ2.out
          cases AN <;> simp at this h <;> omega
        rw [if_neg hq] at HD
        clear hq HQ2
        have HBE := hid (HBW.out.trans (h03.mono (by have := HN2.out; omega)))
        by_cases o22 : op = 22
        · rw [if_pos o22] at HD
          subst o22
          by_cases e1 : lf = la
          · by_cases e2 : 1 ≤ lf
            · by_cases e3 : lf ≤ 16
              · have HFC := hid (HF.out _ h03)
                rw [decide_eq_true ⟨e1, e2, e3⟩] at HD
                subst e1
                have e4 : (1 : Int) ≤ lf := by omega
                have e5 : (lf : Int) ≤ 16 := by omega
                clear HF e2 e3
                go_wp2_with fail
                refine HFC.out.mono ?_
                rintro e w4 ⟨rfl, hb4⟩
                have hbe4 := HBE.out.trans (hb4.mono HBE.out.size)
                clear hb4 HFC
                go_wp2 <;> first | (exfalso; omega) | (go_ret; exact ⟨by rw [HD.out]; rfl, hbe4⟩)
              · rw [decide_eq_false (fun h => e3 h.2.2)] at HD
                subst e1
                have e4 : (1 : Int) ≤ lf := by omega
                have e5 : ¬ (lf : Int) ≤ 16 := by omega
                clear HF e2 e3
                go_wp2 <;> first | (exfalso; omega) | (go_ret; exact ⟨by rw [HD.out]; rfl, HBE.out⟩)
            · rw [decide_eq_false (fun h => e2 h.2.1)] at HD
              subst e1
              have e4 : ¬ (1 : Int) ≤ lf := by omega
              clear HF e2
              go_wp2 <;> first | (exfalso; omega) | (go_ret; exact ⟨by rw [HD.out]; rfl, HBE.out⟩)
          · rw [decide_eq_false (fun h => e1 h.1)] at HD
            have e4 : ((lf : Int) == (la : Int)) = false := by simp; omega
            clear HF e1
            go_wp2 <;> first | (exfalso; omega) | (go_ret; exact ⟨by rw [HD.out]; rfl, HBE.out⟩)
        · rw [if_neg o22] at HD
          have e22 : (op == 22) = false := by simpa using o22
          by_cases e1 : lf = 0
          · have e4 : ((lf : Int) == 0) = true := by simp; omega
            by_cases e2 : la ≤ 4
            · have e3 : (la : Int) ≤ 4 := by omega
              rw [decide_eq_true ⟨e1, e2⟩] at HD
              clear HF e1 e2 o22
              go_wp2 <;> first | (exfalso; omega) | (go_ret; exact ⟨by rw [HD.out]; rfl, HBE.out⟩)
            · have e3 : ¬ (la : Int) ≤ 4 := by omega
              rw [decide_eq_false (fun h => e2 h.2)] at HD
              clear HF e1 e2 o22
              go_wp2 <;> first | (exfalso; omega) | (go_ret; exact ⟨by rw [HD.out]; rfl, HBE.out⟩)
          · have e4 : ((lf : Int) == 0) = false := by simp; omega
            rw [decide_eq_false (fun h => e1 h.1)] at HD
            clear HF e1 o22
            go_wp2 <;> first | (exfalso; omega) | (go_ret; exact ⟨by rw [HD.out]; rfl, HBE.out⟩)
end Go.Proofs.YtkcocgdgmlmflaaGreatDoor.ShRB

namespace Go.Proofs.YtkcocgdgmlmflaaGreatDoor.ShRC
open Go.RowKit Go.Lib RwO SetP IntO TyM TyP TyB TyC TyRA ShM ShP ShA ShB ShC ShE ShRA ShRB ShH Aft

theorem ints_two {w : World} {m : Nat} {a b : Int} (h : w.heap.size = m) : IntsAt (w.alloc (.cells #[.int .i64 a, .int .i64 b] 3)) (.slice (some ⟨m, 0, none⟩) 2 2) [a, b] := by
  subst h
  exact intsAt_of_owns (l := [a, b]) (ownsRow_lit w [.int .i64 a, .int .i64 b] 3 2 rfl (by unfold maxLen; omega)) (by simp)
theorem ints_new {w : World} {m : Nat} {a : Int} (h : w.heap.size = m) : IntsAt (w.alloc (.cells #[.int .i64 a] 3)) (.slice (some ⟨m, 0, none⟩) 1 1) [a] := ints_one (cell_new _ _ _ _ h) (size_new _ _ _ h)

set_option maxRecDepth 100000 in
set_option maxHeartbeats 4000000 in
theorem mayEndR_calls (x : Ex) (nr nb : Int) (w : World) : Calls Tryz.prog 104 #[exV x, .int .i64 nr, .int .i64 nb] w (BoolR (mayER nr nb x) w) := by
  obtain ⟨W, hW⟩ : ∃ W, W = w.alloc (.cells #[.int .u8 x.kind, .int .i64 x.a, .int .i64 x.to, .int .i64 x.els] 45) := ⟨_, rfl⟩
  have hbW : Below w.heap.size w W := by rw [hW]; exact alloc_below _ _
  have hsW : W.heap.size = w.heap.size + 1 := by rw [hW, World.size_alloc]
  have k1 : W.heap[w.heap.size]? = some (.cells #[.int .u8 x.kind, .int .i64 x.a, .int .i64 x.to, .int .i64 x.els] 45 (0, 0)) := by rw [hW]; exact alloc_new _ _
  have m0 := later_cells k1 0 _ rfl; have m1 := later_cells k1 1 _ rfl; have m2 := later_cells k1 2 _ rfl; have m3 := later_cells k1 3 _ rfl
  have HB1 := hid (fun (wx : World) (m : Nat) (hm : wx.heap.size = m) (a lim : Int) => belowR_calls lim (.slice (some ⟨m, 0, none⟩) 1 1) [a] (wx.alloc (.cells #[.int .i64 a] 3)) (ints_new hm))
  have HB2 := hid (fun (wx : World) (m : Nat) (hm : wx.heap.size = m) (a b lim : Int) => belowR_calls lim (.slice (some ⟨m, 0, none⟩) 2 2) [a, b] (wx.alloc (.cells #[.int .i64 a, .int .i64 b] 3)) (ints_two hm))
  have HBW := hid hbW
  have HW := hid hW
  have HSW := hid hsW
  have h0 := Aft.refl W
  clear hbW hW hsW k1
  obtain ⟨kd, xa, xt, xe⟩ := x
  simp only at *
  unfold mayER
  simp only
  by_cases k1 : kd = 1
  · rw [if_pos k1]
    subst k1
    have hd : ∀ b : Bool, (decide (xa = 0 ∧ xe = 0) && b) = ((xa == 0) && ((xe == 0) && b)) := fun b => by rw [Bool.eq_iff_iff]; simp [and_assoc]
    rw [hd]
    clear hd
    cases ha : (xa == 0) with
    | false =>
      go_enter Tryz.func104, Tryz.ntmps104
      go_wp2
      go_ret
      exact ⟨rfl, by rw [← HW.out]; exact HBW.out⟩
    | true =>
      cases he : (xe == 0) with
      | false =>
        go_enter Tryz.func104, Tryz.ntmps104
        go_wp2
        go_ret
        exact ⟨rfl, by rw [← HW.out]; exact HBW.out⟩
      | true =>
        have HC := hid (HB1.out W _ rfl xt nb)
        generalize lowB nb [xt] = q at *
        rw [HSW.out] at HC
        go_enter Tryz.func104, Tryz.ntmps104
        go_wp2_with fail
        rw [← HW.out]
        refine HC.out.mono ?_
        rintro e w1 ⟨rfl, hb1⟩
        have h1 := (h0.alloc _).go hb1
        clear hb1 HC
        go_wp2
        go_ret
        exact ⟨rfl, h1.out HBW.out⟩
  rw [if_neg k1]
  have e1 : (kd == 1) = false := by simpa using k1
  by_cases k2 : kd = 2
  · rw [if_pos k2]
    subst k2
    clear k1
    have HC := hid (HB1.out W _ rfl xa nr)
    have HC2 := hid (fun wx => HB2.out wx _ rfl xt xe nb)
    rw [HSW.out] at HC
    generalize lowB nr [xa] = q at *
    generalize lowB nb [xt, xe] = q2 at *
    cases q with
    | false =>
      go_enter Tryz.func104, Tryz.ntmps104
      go_wp2_with fail
      rw [← HW.out]
      refine HC.out.mono ?_
      rintro e w1 ⟨rfl, hb1⟩
      have h1 := (h0.alloc _).go hb1
      clear hb1 HC
      go_wp2
      go_ret
      exact ⟨rfl, h1.out HBW.out⟩
    | true =>
      go_enter Tryz.func104, Tryz.ntmps104
      go_wp2_with fail
      rw [← HW.out]
      refine HC.out.mono ?_
      rintro e w1 ⟨rfl, hb1⟩
      have h1 := (h0.alloc _).go hb1
      clear hb1 HC
      go_wp2_with fail
      refine (HC2.out w1).mono ?_
      rintro e w2 ⟨rfl, hb2⟩
      have h2 := (h1.alloc _).go hb2
      clear hb2 HC2
      go_wp2
      go_ret
      exact ⟨rfl, h2.out HBW.out⟩
  rw [if_neg k2]
  have e2 : (kd == 2) = false := by simpa using k2
  by_cases k3 : kd = 3
  · rw [if_pos k3]
    subst k3
    clear k1 k2
    have hd : ∀ b : Bool, (decide (xt = 0 ∧ xe = 0) && b) = ((xt == 0) && ((xe == 0) && b)) := fun b => by rw [Bool.eq_iff_iff]; simp [and_assoc]
    rw [hd]
    clear hd
    cases ha : (xt == 0) with
    | false =>
      go_enter Tryz.func104, Tryz.ntmps104
      go_wp2
      go_ret
      exact ⟨rfl, by rw [← HW.out]; exact HBW.out⟩
    | true =>
      cases he : (xe == 0) with
      | false =>
        go_enter Tryz.func104, Tryz.ntmps104
        go_wp2
        go_ret
        exact ⟨rfl, by rw [← HW.out]; exact HBW.out⟩
      | true =>
        have HC := hid (HB1.out W _ rfl xa nr)
        generalize lowB nr [xa] = q at *
        rw [HSW.out] at HC
        go_enter Tryz.func104, Tryz.ntmps104
        go_wp2_with fail
        rw [← HW.out]
        refine HC.out.mono ?_
        rintro e w1 ⟨rfl, hb1⟩
        have h1 := (h0.alloc _).go hb1
        clear hb1 HC
        go_wp2
        go_ret
        exact ⟨rfl, h1.out HBW.out⟩
  rw [if_neg k3]
  have e3 : (kd == 3) = false := by simpa using k3
  clear k1 k2 k3
  go_enter Tryz.func104, Tryz.ntmps104
  go_wp2
  go_ret
  exact ⟨rfl, by rw [← HW.out]; exact HBW.out⟩
end Go.Proofs.YtkcocgdgmlmflaaGreatDoor.ShRC

namespace Go.Proofs.YtkcocgdgmlmflaaGreatDoor.ShRF
open Go.RowKit Go.Lib RwO SetP IntO TyM TyP TyB TyC TyRA ShM ShP ShA ShB ShC ShE ShRA ShH ShI Aft

set_option maxRecDepth 100000 in
set_option maxHeartbeats 8000000 in
theorem mayFuncR_calls (t : List Ty) (nf : Nat) (f : Fx) (vt vb : Value) (fa : Option Addr) (fcap : Nat) (w : World) (ht : TysAt w vt t) (hb : BlksAt w vb f.blocks) (hsm : manyB f.blocks ≤ 20000) (hpar : ∀ x ∈ t, x.parts.length ≤ 20000)
    (hok : ∀ b ∈ f.blocks, (0 ≤ b.en.kind ∧ b.en.kind ≤ 255) ∧ ∀ y ∈ b.ins, 0 ≤ y.op ∧ y.op ≤ 255) (hag : ∀ b ∈ f.blocks, ∀ y ∈ b.ins, y.args.length ≤ 20000) :
    Calls Tryz.prog 97 #[.agg #[vt, .slice fa nf fcap], fxV f vb] w (BoolR (mayF t nf f) w) := by
  obtain ⟨W, hW⟩ : ∃ W, W = (w.alloc (.cells #[vt, .slice fa nf fcap] 25)).alloc (.cells #[.int .i64 f.sig, vb] 42) := ⟨_, rfl⟩
  have hbW : Below w.heap.size w W := by rw [hW]; exact ShRB.two_below _ _ _
  have k1 : W.heap[w.heap.size]? = some (.cells #[vt, .slice fa nf fcap] 25 (0, 0)) := by rw [hW]; exact alloc_old (alloc_new _ _) _
  have k2 : W.heap[w.heap.size + 1]? = some (.cells #[.int .i64 f.sig, vb] 42 (0, 0)) := by
    rw [hW]
    have := alloc_new (w.alloc (.cells #[vt, .slice fa nf fcap] 25)) (.cells #[.int .i64 f.sig, vb] 42)
    rwa [World.size_alloc] at this
  have htW := ht.below hbW
  have hbl := hb.below blkStays hbW
  have HT := hid ht
  have HBL := hid hbl
  have HI := hid (fun wx (hx : Aft W wx) => many_calls vb f.blocks wx (hbl.below blkStays hx.below) (by omega))
  have HP := hid (fun (h0 : 0 ≤ f.sig) (h1 : f.sig < t.length) wx (hx : Aft W wx) => paramsR_calls t f vt (.slice fa nf fcap) vb wx (htW.below hx.below) ⟨_, _, _, rfl⟩ h0 h1 hbl.slice)
  have HOK := hid hok
  have HAG := hid hag
  obtain ⟨ta, tc, rfl⟩ := ht.slice
  obtain ⟨ba, bc, rfl, hbll⟩ := hb.slice
  have l0 := later_cells k1 0 _ rfl; have l1 := later_cells k1 1 _ rfl
  have m0 := later_cells k2 0 _ rfl; have m1 := later_cells k2 1 _ rfl
  have htl : t.length ≤ 9223372036854775807 := by obtain ⟨_, _, _, h, _⟩ := ht; exact h
  have HD : Hid (mayF t nf f = if ¬ (0 ≤ f.sig ∧ f.sig < t.length) then false
    else if kindAt t f.sig ≠ 3 then false
    else if f.blocks.length < 1 ∨ 16 < f.blocks.length ∨ 128 < manyB f.blocks then false
    else f.blocks.all (mayBl (limL t.length ((parOf t f.sig + manyB f.blocks : Nat) : Int) nf f.blocks.length))) := rfl
  generalize mayF t nf f = ans at *
  have HBW := hid hbW
  have HW := hid hW
  have h0 := Aft.refl W
  clear ht hb hok hag hbW hW k1 k2 htW hbl
  by_cases hs : 0 ≤ f.sig ∧ f.sig < t.length
  rotate_left
  · rw [if_pos hs] at HD
    have hs2 : f.sig < 0 ∨ (¬ f.sig < 0 ∧ (t.length : Int) ≤ f.sig) := by omega
    clear HI HP HT HBL HOK HAG hpar hs
    obtain ⟨sg, bl⟩ := f
    simp only at *
    generalize t.length = n1 at *
    generalize bl.length = n3 at *
    rcases hs2 with s1 | ⟨s1, s2⟩
    · go_enter Tryz.func97, Tryz.ntmps97
      go_wp2
      go_ret
      exact ⟨by rw [HD.out]; rfl, by rw [← HW.out]; exact HBW.out⟩
    · go_enter Tryz.func97, Tryz.ntmps97
      go_wp2
      go_ret
      exact ⟨by rw [HD.out]; rfl, by rw [← HW.out]; exact HBW.out⟩
  obtain ⟨k, hk⟩ : ∃ k : Nat, f.sig = k := ⟨f.sig.toNat, by omega⟩
  have hkt : k < t.length := by omega
  have hkind : kindAt t f.sig = t[k].kind := by unfold kindAt; rw [hk, Int.toNat_natCast, List.getElem?_eq_getElem hkt]; rfl
  rw [if_neg (fun h => h hs), hkind] at HD
  obtain ⟨tb, off, rfl, hlt, pv, c0, z1, z2, z3, z4⟩ := HT.out.at k hkt
  have hsm2 : parOf t f.sig + manyB f.blocks ≤ 1000000 := by
    rw [hk, parOf_at hkt]
    have := hpar _ (List.getElem_mem hkt)
    omega
  have HPP := hid (HP.out hs.1 hs.2)
  have d0 := later ((HBW.out.cell (p := ⟨tb, off + k * 4, none⟩) hlt).trans c0)
  have HWR := hid (sum_wrap hsm2)
  clear HP HT hpar hkind z1 z2 z3 z4
  generalize t[k].kind = kk at *
  clear hkt
  generalize parOf t f.sig = np at *
  generalize hnm : manyB f.blocks = nm at *
  have HNM := hid hnm
  clear hnm
  have hsg : ¬ f.sig < 0 := by omega
  have hsg2 : ¬ (t.length : Int) ≤ f.sig := by omega
  have HHS := hid hs
  by_cases hkk : kk = 3
  rotate_left
  · rw [if_pos hkk] at HD
    have e3 : (kk != 3) = true := by simpa using hkk
    clear HI HPP HBL HOK HAG hkk
    obtain ⟨sg, bl⟩ := f
    simp only at *
    generalize t.length = n1 at *
    generalize bl.length = n3 at *
    subst hk
    go_enter Tryz.func97, Tryz.ntmps97
    go_wp2
    go_ret
    exact ⟨by rw [HD.out]; rfl, by rw [← HW.out]; exact HBW.out⟩
  rw [if_neg (fun h => h hkk)] at HD
  subst hkk
  by_cases h13 : f.blocks.length < 1 ∨ (¬ f.blocks.length < 1 ∧ 16 < f.blocks.length)
  · rw [if_pos (by omega)] at HD
    clear HI HPP HBL HOK HAG
    obtain ⟨sg, bl⟩ := f
    simp only at *
    generalize t.length = n1 at *
    generalize bl.length = n3 at *
    subst hk
    have h14 : (n3 : Int) < 1 ∨ (¬ (n3 : Int) < 1 ∧ (16 : Int) < n3) := by omega
    rcases h14 with h14 | ⟨h14, h15⟩
    · go_enter Tryz.func97, Tryz.ntmps97
      go_wp2 <;> first | (exfalso; omega) | (go_ret; exact ⟨by rw [HD.out]; rfl, by rw [← HW.out]; exact HBW.out⟩)
    · go_enter Tryz.func97, Tryz.ntmps97
      go_wp2 <;> first | (exfalso; omega) | (go_ret; exact ⟨by rw [HD.out]; rfl, by rw [← HW.out]; exact HBW.out⟩)
  have g1 : ¬ (f.blocks.length : Int) < 1 := by omega
  have g16 : ¬ (16 : Int) < f.blocks.length := by omega
  by_cases hm : 128 < nm
  · rw [if_pos (by omega)] at HD
    have gm : (128 : Int) < nm := by omega
    have HIC := hid (HI.out W h0)
    clear HI HPP HBL HOK HAG h13
    obtain ⟨sg, bl⟩ := f
    simp only at *
    generalize t.length = n1 at *
    generalize bl.length = n3 at *
    subst hk
    go_enter Tryz.func97, Tryz.ntmps97
    go_wp2_with fail
    all_goals (try (exfalso; omega))
    rw [← HW.out]
    refine HIC.out.mono ?_
    rintro e w1 ⟨rfl, hb1⟩
    have h1 := h0.go hb1
    clear hb1 HIC
    go_wp2 <;> first | (exfalso; omega) | (go_ret; exact ⟨by rw [HD.out]; rfl, h1.out HBW.out⟩)
  rw [if_neg (by omega)] at HD
  have gm : ¬ (128 : Int) < nm := by omega
  have HIC := hid (HI.out W h0)
  obtain ⟨sg, bl⟩ := f
  simp only at *
  generalize t.length = n1 at *
  generalize hn3 : bl.length = n3 at *
  have HN3 := hid hn3
  subst hk
  clear hn3 h13 hm
  go_enter Tryz.func97, Tryz.ntmps97
  go_wp2_with fail
  all_goals (try (exfalso; omega))
  rw [← HW.out]
  refine HIC.out.mono ?_
  rintro e w1 ⟨rfl, hb1⟩
  have h1 := h0.go hb1
  clear hb1 HIC
  have h1d := h1.drew
  have hwr := HWR.out
  go_upto_region 3 with fail
  all_goals (try (exfalso; omega))
  have HPC := hid (HPP.out _ h1d)
  clear h1 hlt
  go_region_held3 (fun w' => Aft W w') (first | exact (h1d.go hb3).go hb4 | exact h1d.go hb3 | exact h1d)
    (first | (go_at_call 59; refine HPC.out.mono ?_; rintro e w3 ⟨rfl, hb3⟩) | (go_at_call 60; refine (HI.out w3 (h1d.go hb3)).mono ?_; rintro e w4 ⟨rfl, hb4⟩))
  have h4 := (h1d.go hb3).go hb4
  have HH4 := hid h4
  clear HPC HPP HI hb3 hb4 hwr HWR h1d c0
  have HL0 : Hid (∀ x : Ix, 0 ≤ x.op → mayI (limL n1 ((np + nm : Nat) : Int) nf n3) x = mayIR n1 ((np + nm : Nat) : Int) nf n3 x) := fun x hx => ShN.mayI_eq hx
  have HL1 : Hid (∀ x : Ex, 0 ≤ x.kind → mayE (limL n1 ((np + nm : Nat) : Int) nf n3) x = mayER ((np + nm : Nat) : Int) n3 x) := fun x hx => ShN.mayE_eq hx
  have hcast : ((np + nm : Nat) : Int) = (np : Int) + (nm : Int) := by omega
  rw [hcast] at HL0 HL1 HD
  clear hcast
  obtain ⟨nr, hnr⟩ : ∃ nr : Int, nr = (np : Int) + (nm : Int) := ⟨_, rfl⟩
  rw [← hnr] at HL0 HL1 HD ⊢
  clear hnr
  clear h4
  go_wp2_with fail
  go_loopg [6, 7] n3 (fun gk i _ wr => ∃ k : Nat, k + gk = n3 ∧ i = .int .i64 k ∧ (bl.take k).all (mayBl (limL n1 nr nf n3)) = true ∧ Aft W wr)
  case atStart => exact ⟨0, by omega, rfl, rfl, HH4.out⟩
  case round =>
    obtain ⟨i, hi, rfl, hall, hr⟩ := hrel
    have HK := hid hi
    have HALL := hid hall
    clear hall
    by_cases hlt : i < n3
    · have hlb : i < bl.length := by rw [HN3.out]; exact hlt
      obtain ⟨b, bo, rfl, hbs, vi, b0, b1, b2, b3, b4, hins⟩ := HBL.out.at i hlb
      have j0 := later b0; have j1 := later b1; have j2 := later b2; have j3 := later b3; have j4 := later b4
      have HTK := hid (all_take (q := mayBl (limL n1 nr nf n3)) hlb HALL.out)
      have HNO := hid (all_not (q := mayBl (limL n1 nr nf n3)) hlb)
      have hmem := List.getElem_mem hlb
      have HO := hid (HOK.out _ hmem)
      have HA := hid (HAG.out _ hmem)
      have HBF : Hid (bl[i].ins.all (mayI (limL n1 nr nf n3)) = false → mayBl (limL n1 nr nf n3) bl[i] = false) := fun h => by unfold mayBl; rw [h, Bool.and_false]
      have HBE : Hid (mayE (limL n1 nr nf n3) bl[i].en = false → mayBl (limL n1 nr nf n3) bl[i] = false) := fun h => by unfold mayBl; rw [h]; rfl
      have HBT : Hid (mayE (limL n1 nr nf n3) bl[i].en = true → bl[i].ins.all (mayI (limL n1 nr nf n3)) = true → mayBl (limL n1 nr nf n3) bl[i] = true) := fun h1 h2 => by unfold mayBl; rw [h1, h2]; rfl
      clear hi b0 b1 b2 b3 b4 hbs hmem
      generalize bl[i] = y at *
      clear hlb
      obtain ⟨ia, ic, rfl, hil⟩ := hins.slice
      have HIN := hid hins
      clear hins
      obtain ⟨wo, hwo⟩ : ∃ wo : World, wo = wr := ⟨wr, rfl⟩
      subst hwo
      obtain ⟨go, hgo⟩ : ∃ go : Nat, go = gk := ⟨gk, rfl⟩
      subst hgo
      have HRO := hid hr
      go_wp2_with fail
      clear hr
      go_loopg [7] y.ins.length (fun gk q wr => ∃ k : Nat, k + gk = y.ins.length ∧ q = .int .i64 k ∧ (y.ins.take k).all (mayI (limL n1 nr nf n3)) = true ∧ Aft W wr)
      case atStart => exact ⟨0, by omega, rfl, rfl, HRO.out⟩
      case round =>
        obtain ⟨q, hq, rfl, hallq, hr⟩ := hrel
        have HQ := hid hq
        have HALQ := hid hallq
        clear hallq
        by_cases hql : q < y.ins.length
        · obtain ⟨ib, io, rfl, _, va, vf, i0, i1, i2, i3, i4, i5, i6, hva, hvf⟩ := HIN.out.at q hql
          have y0 := later i0; have y1 := later i1; have y2 := later i2; have y3 := later i3; have y4 := later i4; have y5 := later i5; have y6 := later i6
          have HTQ := hid (all_take (q := mayI (limL n1 nr nf n3)) hql HALQ.out)
          have HNQ := hid (all_not (q := mayI (limL n1 nr nf n3)) hql)
          have hmem := List.getElem_mem hql
          have hop := HO.out.2 _ hmem
          have hag := HA.out _ hmem
          have heq := HL0.out _ hop.1
          clear hq i0 i1 i2 i3 i4 i5 i6 hmem
          generalize y.ins[q] = x at *
          have hrd := hr.drew
          have HC := hid (ShRB.mayIns_calls x (some ⟨tb, off, none⟩) n1 tc fa nf fcap nr n3 va vf wr.drew hop (hva.below hrd.below) (hvf.below hrd.below) hag)
          rw [← heq] at HC
          obtain ⟨aa, ac, rfl, _⟩ := ints_slice hva
          obtain ⟨fa2, fc2, rfl, _⟩ := ints_slice hvf
          clear hva hvf hop hag heq
          generalize mayI (limL n1 nr nf n3) x = ok at *
          have hlq : (q : Int) < y.ins.length := by omega
          go_upto_region 10 with fail
          go_region_held3 (fun w' => Aft W w') (first | exact hrd.go hb5 | exact hrd) ((go_at_call 103; refine HC.out.mono ?_; rintro e w5 ⟨rfl, hb5⟩))
          have h5 := hrd.go hb5
          clear hb5 hrd HC
          cases ok with
          | false =>
            have HANS : Hid (ans = false) := by
              show _ = _
              rw [HD.out]
              exact Bool.eq_false_iff.2 (HNO.out (HBF.out (Bool.eq_false_iff.2 (HNQ.out rfl))))
            clear HNO HBF HNQ
            go_wp2
            go_ret
            exact ⟨by rw [HANS.out]; rfl, h5.out HBW.out⟩
          | true =>
            have HT2 := hid (HTQ.out rfl)
            clear HTQ HNQ
            go_wp2
            go_roundg (gk - 1)
            case measure => have := HQ.out; omega
            case rel => exact ⟨q + 1, by have := HQ.out; omega, by go_num, HT2.out, h5⟩
        · obtain rfl : q = y.ins.length := by omega
          have HALL2 : Hid (y.ins.all (mayI (limL n1 nr nf n3)) = true) := by
            have := HALQ.out
            rwa [List.take_length] at this
          have HE := hid (ShRC.mayEndR_calls y.en nr n3 wr.drew)
          have heq := HL1.out _ HO.out.1.1
          rw [← heq] at HE
          have hrd := hr.drew
          clear hq heq
          generalize mayE (limL n1 nr nf n3) y.en = ok at *
          go_upto_region 12 with fail
          go_region_held3 (fun w' => Aft W w') (first | exact hrd.go hb5 | exact hrd) ((go_at_call 104; refine HE.out.mono ?_; rintro e w5 ⟨rfl, hb5⟩))
          have h5 := hrd.go hb5
          clear hb5 hrd HE
          cases ok with
          | false =>
            have HANS : Hid (ans = false) := by
              show _ = _
              rw [HD.out]
              exact Bool.eq_false_iff.2 (HNO.out (HBE.out rfl))
            clear HNO HBE
            go_wp2
            go_ret
            exact ⟨by rw [HANS.out]; rfl, h5.out HBW.out⟩
          | true =>
            have HT2 := hid (HTK.out (HBT.out rfl HALL2.out))
            clear HTK HBT
            go_wp2
            go_roundg (go - 1)
            case measure => have := HK.out; omega
            case rel => exact ⟨i + 1, by have := HK.out; omega, by go_num, HT2.out, h5⟩
    · obtain rfl : i = n3 := by omega
      have HANS : Hid (ans = true) := by
        show _ = _
        have := HALL.out
        rw [← HN3.out, List.take_length, HN3.out] at this
        rw [HD.out, this]
      clear hi
      go_wp2
      go_ret
      exact ⟨by rw [HANS.out]; rfl, hr.out HBW.out⟩
end Go.Proofs.YtkcocgdgmlmflaaGreatDoor.ShRF

namespace Go.Proofs.YtkcocgdgmlmflaaGreatDoor.ShRG
open Go.RowKit Go.Lib RwO SetP IntO TyM TyP TyB TyC TyRA ShM ShP ShA ShB ShC ShE ShRA ShH ShI Aft

set_option maxRecDepth 100000 in
set_option maxHeartbeats 8000000 in
theorem checkP_calls (p : Px) (v : Value) (w : World) (hp : PrAt w v p) (hs : Small p) (hok : POk p) :
    Calls Tryz.prog 87 #[v] w (NumR (chkP p) w) := by
  obtain ⟨vt, vf, rfl, ht, hf⟩ := hp
  obtain ⟨W, hW⟩ : ∃ W, W = w.alloc (.cells #[vt, vf] 25) := ⟨_, rfl⟩
  have hbW : Below w.heap.size w W := by rw [hW]; exact alloc_below _ _
  have k1 : W.heap[w.heap.size]? = some (.cells #[vt, vf] 25 (0, 0)) := by rw [hW]; exact alloc_new _ _
  have HCK := hid (TyRB.checkR_calls p.types vt W (ht.below hbW))
  have HF := hid (hf.below fnStays hbW)
  have HT := hid (ht.below hbW)
  have HS := hid hs
  have HOK := hid hok
  obtain ⟨ta, tc, rfl⟩ := ht.slice
  obtain ⟨fa, fc, rfl, hfl⟩ := hf.slice
  have l0 := later_cells k1 0 _ rfl; have l1 := later_cells k1 1 _ rfl
  have HD : Hid (chkP p = if chkT p.types ≠ 0 then chkT p.types else if p.funcs.length < 1 ∨ 8 < p.funcs.length then 60 else if p.funcs.all (mayF p.types p.funcs.length) = true then 0 else 60) := rfl
  generalize chkP p = ans at *
  have HBW := hid hbW
  have HW := hid hW
  have h0 := Aft.refl W
  clear ht hf hbW hW hs hok k1
  by_cases hc : chkT p.types = 0
  rotate_left
  · rw [if_pos hc] at HD
    have e0 : (chkT p.types != 0) = true := by simpa using hc
    generalize chkT p.types = ct at *
    clear HT HF HS HOK
    generalize p.types.length = n1 at *
    generalize p.funcs.length = n2 at *
    go_enter Tryz.func87, Tryz.ntmps87
    go_wp2_with fail
    rw [← HW.out]
    refine HCK.out.mono ?_
    rintro e w1 ⟨rfl, hb1⟩
    have h1 := h0.go hb1
    clear HCK hb1 hc
    go_wp2
    go_ret
    exact ⟨by rw [HD.out]; rfl, h1.out HBW.out⟩
  rw [if_neg (fun h => h hc)] at HD
  rw [hc] at HCK
  clear hc
  have HMF := hid (fun (i : Nat) (h : i < p.funcs.length) (vb : Value) wx (hx : Aft W wx) (hb : BlksAt wx vb p.funcs[i].blocks) =>
    ShRF.mayFuncR_calls p.types p.funcs.length p.funcs[i] (.slice ta p.types.length tc) vb fa fc wx (HT.out.below hx.below) hb (HS.out.many _ (List.getElem_mem h)) HS.out.parts (HOK.out _ (List.getElem_mem h)) (fun b hb x hx => by have := (HS.out.args _ (List.getElem_mem h) b hb x hx).1; omega))
  clear HT HS HOK
  go_enter Tryz.func87, Tryz.ntmps87
  go_wp2_with fail
  rw [← HW.out]
  refine HCK.out.mono ?_
  rintro e w1 ⟨rfl, hb1⟩
  have h1 := h0.go hb1
  clear HCK hb1
  have HH1 := hid h1
  go_wp2_with fail
  go_loopg [4] p.funcs.length (fun gk i wr => ∃ k : Nat, k + gk = p.funcs.length ∧ i = .int .i64 k ∧ (p.funcs.take k).all (mayF p.types p.funcs.length) = true ∧ Aft W wr)
  case atStart => exact ⟨0, by omega, rfl, rfl, HH1.out⟩
  case round =>
    obtain ⟨i, hi, rfl, hall, hr⟩ := hrel
    clear h1
    have HK := hid hi
    have HALL := hid hall
    clear hall
    by_cases hlt : i < p.funcs.length
    · have hrd := hr.drew
      obtain ⟨b, bo, rfl, hbs, vb, b0, b1, hbl⟩ := (HF.out.below fnStays hrd.below).at i hlt
      have j0 := later b0; have j1 := later b1
      have HTK := hid (all_take (q := mayF p.types p.funcs.length) hlt HALL.out)
      have HNO := hid (all_not (q := mayF p.types p.funcs.length) hlt)
      have HC := hid (HMF.out i hlt vb _ hrd hbl)
      obtain ⟨ba, bc, rfl, _⟩ := hbl.slice
      have hli : (i : Int) < p.funcs.length := by omega
      clear hi b0 b1 hbs hbl HMF HF
      generalize p.funcs[i] = x at *
      clear hlt
      generalize mayF p.types p.funcs.length x = ok at *
      generalize p.types.length = n1 at *
      have HRD := hid hrd
      have hrr := Aft.refl wr.drew
      go_upto_region 7 with fail
      go_region_held3 (fun w' => Aft W w' ∧ Aft wr.drew w') (first | exact ⟨HRD.out.go hb5, hrr.go hb5⟩ | exact ⟨HRD.out, hrr⟩) ((go_at_call 97; refine HC.out.mono ?_; rintro e w5 ⟨rfl, hb5⟩))
      have h5 := HRD.out.go hb5
      clear hb5 HC
      cases ok with
      | false =>
        have HANS : Hid (ans = 60) := by
          show _ = _
          have := HNO.out rfl
          rw [HD.out, if_neg this]
          split <;> rfl
        clear HNO HTK
        go_wp2
        go_ret
        exact ⟨by rw [HANS.out]; rfl, h5.out HBW.out⟩
      | true =>
        have HT2 := hid (HTK.out rfl)
        clear HTK HNO
        go_wp2
        go_roundg (gk - 1)
        case measure => have := HK.out; omega
        case rel => exact ⟨i + 1, by have := HK.out; omega, by go_num, HT2.out, h5⟩
    · obtain rfl : i = p.funcs.length := by omega
      have hall : p.funcs.all (mayF p.types p.funcs.length) = true := by
        have := HALL.out
        rwa [List.take_length] at this
      rw [if_pos hall] at HD
      clear hi HALL hall HMF HF hlt
      have HR := hid (hr.out HBW.out)
      generalize p.types.length = n1 at *
      generalize p.funcs.length = n2 at *
      by_cases hn1 : n2 < 1
      · rw [if_pos (Or.inl hn1)] at HD
        have hn3 : (n2 : Int) < 1 := by omega
        clear hn1
        go_wp2 <;> first | (exfalso; omega) | (go_ret; exact ⟨by rw [HD.out]; rfl, HR.out⟩)
      · have hn3 : ¬ (n2 : Int) < 1 := by omega
        by_cases hn8 : 8 < n2
        · rw [if_pos (Or.inr hn8)] at HD
          have hn4 : (8 : Int) < n2 := by omega
          clear hn1 hn8
          go_wp2 <;> first | (exfalso; omega) | (go_ret; exact ⟨by rw [HD.out]; rfl, HR.out⟩)
        · rw [if_neg (by omega)] at HD
          have hn4 : ¬ (8 : Int) < n2 := by omega
          clear hn1 hn8
          go_wp2 <;> first | (exfalso; omega) | (go_ret; exact ⟨by rw [HD.out]; rfl, HR.out⟩)

end Go.Proofs.YtkcocgdgmlmflaaGreatDoor.ShRG
namespace Go.Proofs.YtkcocgdgmlmflaaGreatDoor.ShRH
open Go.RowKit Go.Lib RwO SetP IntO TyM TyP TyB TyC TyRA ShM ShP ShA ShB ShC ShE ShRA ShH ShI ShJ Aft

set_option maxRecDepth 100000 in
set_option maxHeartbeats 8000000 in
theorem number_calls (p : Px) (f : Int) (k : Nat) (x : Fx) (j i : Nat) (v : Value) (w : World) (hp : PrAt w v p) (h1 : Has1 p f k x) (hj : j ≤ x.blocks.length) (hle : parOf p.types x.sig + manyB x.blocks ≤ 1000000) (hi : i ≤ 1000000) :
    Calls Tryz.prog 41 #[v, .int .i64 f, .int .i64 j, .int .i64 i] w (NumR ((parOf p.types x.sig + (manyB (x.blocks.take j) + i) : Nat) : Int) w) := by
  obtain ⟨vt, vf, rfl, ht, hf⟩ := hp
  obtain ⟨W, hW⟩ : ∃ W, W = w.alloc (.cells #[vt, vf] 25) := ⟨_, rfl⟩
  have hbW : Below w.heap.size w W := by rw [hW]; exact alloc_below _ _
  have k1 : W.heap[w.heap.size]? = some (.cells #[vt, vf] 25 (0, 0)) := by rw [hW]; exact alloc_new _ _
  obtain ⟨fb, foff, fcap, vb, rfl, hfb, c0, c1, hbl⟩ := fn_at hf h1
  have htW := ht.below hbW
  have hblW := hbl.below blkStays hbW
  have hml := manyB_le x.blocks j
  have HP := hid (fun wx (hx : Aft W wx) => paramsR_calls p.types x vt (.slice (some ⟨fb, foff, none⟩) p.funcs.length fcap) vb wx (htW.below hx.below) ⟨_, _, _, rfl⟩ h1.sig0 h1.sig1 (hblW.below blkStays hx.below).slice)
  have d0 := later ((hbW.cell (p := ⟨fb, foff + k * 2, none⟩) hfb).trans c0)
  have d1 := later ((hbW.cell (p := ⟨fb, foff + k * 2 + 1, none⟩) hfb).trans c1)
  obtain ⟨ta, tc, rfl⟩ := ht.slice
  obtain ⟨ba, bc, rfl, _⟩ := hbl.slice
  obtain ⟨bb, boff, hba, -⟩ := hbl.at 0 (by have := h1.blocks1; omega)
  subst hba
  have HI := hid (fun wx (hx : Aft W wx) => many_calls (.slice (some ⟨bb, boff, none⟩) j bc) (x.blocks.take j) wx ((hblW.below blkStays hx.below).take j hj) (by omega))
  have hcap := hbl.cap
  have hjc : (j : Int) ≤ bc := by omega
  have hj0 : (0 : Int) ≤ j := by omega
  have l0 := later_cells k1 0 _ rfl; have l1 := later_cells k1 1 _ rfl
  have hkl : (k : Int) < p.funcs.length := by have := h1.lt; omega
  have hk0 : (0 : Int) ≤ k := by omega
  have hke := h1.eq
  have HBW := hid hbW
  have HW := hid hW
  have h0 := (Aft.refl W).drew
  have hw1 : IntKind.i64.wrap (((parOf p.types x.sig : Nat) : Int) + (manyB (x.blocks.take j) : Nat)) = ((parOf p.types x.sig + manyB (x.blocks.take j) : Nat) : Int) := sum_wrap (by omega)
  have hw2 : IntKind.i64.wrap (((parOf p.types x.sig : Nat) : Int) + (manyB (x.blocks.take j) : Nat) + (i : Int)) = ((parOf p.types x.sig + (manyB (x.blocks.take j) + i) : Nat) : Int) := by rw [IntWalk.i64_in _ (by omega)]; omega
  have HW1 := hid hw1
  have HW2 := hid hw2
  clear ht hf htW hblW hbW hW k1 hbl h1 c0 c1 hle hml hw1 hw2 hj
  subst hke
  generalize parOf p.types x.sig = par at *
  generalize manyB (x.blocks.take j) = nm at *
  obtain ⟨sg, bl⟩ := x
  simp only at *
  generalize p.types.length = n1 at *
  generalize p.funcs.length = n2 at *
  generalize bl.length = n4 at *
  have hwr := HW1.out
  have hwr2 := HW2.out
  have HPC := hid (HP.out _ h0)
  clear HP
  go_enter Tryz.func41, Tryz.ntmps41
  go_wp2_with fail
  rw [← HW.out]
  go_region_held3 (fun w' => Aft W w') (first | exact (h0.go hb3).go hb4 | exact h0.go hb3 | exact h0)
    (first | (go_at_call 59; refine HPC.out.mono ?_; rintro e w3 ⟨rfl, hb3⟩) | (go_at_call 60; refine (HI.out w3 (h0.go hb3)).mono ?_; rintro e w4 ⟨rfl, hb4⟩))
  all_goals
    have h4 := (h0.go hb3).go hb4
    go_wp2
    go_ret
    exact ⟨rfl, h4.out HBW.out⟩

end Go.Proofs.YtkcocgdgmlmflaaGreatDoor.ShRH
namespace Go.Proofs.YtkcocgdgmlmflaaGreatDoor.ShRG
open Go.RowKit Go.Lib RwO SetP IntO TyM TyP TyB TyC TyRA ShM ShP ShA ShB ShC ShE ShRA ShH ShI Aft

set_option maxRecDepth 100000 in
set_option maxHeartbeats 8000000 in
theorem asked_calls (p : Px) (f : Int) (v : Value) (w : World) (hp : PrAt w v p) (hs : Small p) (hok : POk p) :
    Calls Tryz.prog 77 #[v, .int .i64 f] w (NumR (findP p f) w) := by
  have hp0 := hp
  obtain ⟨vt, vf, rfl, ht, hf⟩ := hp
  obtain ⟨W, hW⟩ : ∃ W, W = w.alloc (.cells #[vt, vf] 25) := ⟨_, rfl⟩
  have hbW : Below w.heap.size w W := by rw [hW]; exact alloc_below _ _
  have k1 : W.heap[w.heap.size]? = some (.cells #[vt, vf] 25 (0, 0)) := by rw [hW]; exact alloc_new _ _
  have HCK := hid (checkP_calls p _ W (hp0.below hbW) hs hok)
  have HD : Hid (findP p f = if chkP p ≠ 0 then chkP p else if 0 ≤ f ∧ f < p.funcs.length then 0 else 2) := rfl
  obtain ⟨ta, tc, rfl⟩ := ht.slice
  obtain ⟨fa, fc, rfl, hfl⟩ := hf.slice
  have l0 := later_cells k1 0 _ rfl; have l1 := later_cells k1 1 _ rfl
  generalize findP p f = ans at *
  generalize chkP p = ck at *
  have HBW := hid hbW
  have HW := hid hW
  have h0 := Aft.refl W
  clear ht hf hbW hW hs hok k1 hp0
  generalize p.types.length = n1 at *
  generalize p.funcs.length = n2 at *
  by_cases hc : ck = 0
  rotate_left
  · rw [if_pos hc] at HD
    have e0 : (ck == 0) = false := by simpa using hc
    go_enter Tryz.func77, Tryz.ntmps77
    go_wp2_with fail
    rw [← HW.out]
    refine HCK.out.mono ?_
    rintro e w1 ⟨rfl, hb1⟩
    have h1 := h0.go hb1
    clear HCK hb1 hc
    go_wp2
    go_ret
    exact ⟨by rw [HD.out]; rfl, h1.out HBW.out⟩
  rw [if_neg (fun h => h hc)] at HD
  subst hc
  go_enter Tryz.func77, Tryz.ntmps77
  go_wp2_with fail
  rw [← HW.out]
  refine HCK.out.mono ?_
  rintro e w1 ⟨rfl, hb1⟩
  have h1 := h0.go hb1
  have HE := hid (h1.out HBW.out)
  clear HCK hb1
  by_cases f0 : f < 0
  · rw [if_neg (by omega)] at HD
    go_wp2 <;> first | (exfalso; omega) | (go_ret; exact ⟨by rw [HD.out]; rfl, HE.out⟩)
  · by_cases f1 : (n2 : Int) ≤ f
    · rw [if_neg (by omega)] at HD
      go_wp2 <;> first | (exfalso; omega) | (go_ret; exact ⟨by rw [HD.out]; rfl, HE.out⟩)
    · rw [if_pos (by omega)] at HD
      go_wp2 <;> first | (exfalso; omega) | (go_ret; exact ⟨by rw [HD.out]; rfl, HE.out⟩)
end Go.Proofs.YtkcocgdgmlmflaaGreatDoor.ShRG

namespace Go.Proofs.YtkcocgdgmlmflaaGreatDoor.ShRH
open Go.RowKit Go.Lib RwO SetP IntO TyM TyP TyB TyC TyRA ShM ShP ShA ShB ShC ShE ShRA ShH ShI ShJ Aft

set_option maxRecDepth 100000 in
set_option maxHeartbeats 8000000 in
theorem count_calls (p : Px) (f : Int) (k : Nat) (x : Fx) (v : Value) (w : World) (hp : PrAt w v p) (h1 : Has1 p f k x) (hle : parOf p.types x.sig + manyB x.blocks ≤ 1000000) :
    Calls Tryz.prog 43 #[v, .int .i64 f] w (NumR ((parOf p.types x.sig + manyB x.blocks : Nat) : Int) w) := by
  obtain ⟨vt, vf, rfl, ht, hf⟩ := hp
  obtain ⟨W, hW⟩ : ∃ W, W = w.alloc (.cells #[vt, vf] 25) := ⟨_, rfl⟩
  have hbW : Below w.heap.size w W := by rw [hW]; exact alloc_below _ _
  have k1 : W.heap[w.heap.size]? = some (.cells #[vt, vf] 25 (0, 0)) := by rw [hW]; exact alloc_new _ _
  obtain ⟨fb, foff, fcap, vb, rfl, hfb, c0, c1, hbl⟩ := fn_at hf h1
  have htW := ht.below hbW
  have hblW := hbl.below blkStays hbW
  have HP := hid (fun wx (hx : Aft W wx) => paramsR_calls p.types x vt (.slice (some ⟨fb, foff, none⟩) p.funcs.length fcap) vb wx (htW.below hx.below) ⟨_, _, _, rfl⟩ h1.sig0 h1.sig1 (hblW.below blkStays hx.below).slice)
  have HI := hid (fun wx (hx : Aft W wx) => many_calls vb x.blocks wx (hblW.below blkStays hx.below) (by omega))
  have HWR := hid (sum_wrap hle)
  have d0 := later ((hbW.cell (p := ⟨fb, foff + k * 2, none⟩) hfb).trans c0)
  have d1 := later ((hbW.cell (p := ⟨fb, foff + k * 2 + 1, none⟩) hfb).trans c1)
  obtain ⟨ta, tc, rfl⟩ := ht.slice
  obtain ⟨ba, bc, rfl, _⟩ := hbl.slice
  have l0 := later_cells k1 0 _ rfl; have l1 := later_cells k1 1 _ rfl
  have hkl : (k : Int) < p.funcs.length := by have := h1.lt; omega
  have hk0 : (0 : Int) ≤ k := by omega
  have hke := h1.eq
  have HBW := hid hbW
  have HW := hid hW
  have h0 := (Aft.refl W).drew
  clear ht hf htW hblW hbW hW k1 hbl h1 c0 c1 hle
  subst hke
  generalize parOf p.types x.sig = par at *
  generalize manyB x.blocks = nm at *
  obtain ⟨sg, bl⟩ := x
  simp only at *
  generalize p.types.length = n1 at *
  generalize p.funcs.length = n2 at *
  generalize bl.length = n4 at *
  have hwr := HWR.out
  have HPC := hid (HP.out _ h0)
  clear HP
  go_enter Tryz.func43, Tryz.ntmps43
  go_wp2_with fail
  rw [← HW.out]
  go_region_held3 (fun w' => Aft W w') (first | exact (h0.go hb3).go hb4 | exact h0.go hb3 | exact h0)
    (first | (go_at_call 59; refine HPC.out.mono ?_; rintro e w3 ⟨rfl, hb3⟩) | (go_at_call 60; refine (HI.out w3 (h0.go hb3)).mono ?_; rintro e w4 ⟨rfl, hb4⟩))
  all_goals
    have h4 := (h0.go hb3).go hb4
    go_wp2
    go_ret
    exact ⟨rfl, h4.out HBW.out⟩
end Go.Proofs.YtkcocgdgmlmflaaGreatDoor.ShRH
namespace Go.Proofs.YtkcocgdgmlmflaaGreatDoor.ShRI
open Go.RowKit Go.Lib RwO SetP IntO TyM TyP TyB TyC TyRA ShM ShP ShA ShB ShC ShE ShRA ShH ShI ShJ ShRG ShRH Aft

set_option maxRecDepth 100000 in
set_option maxHeartbeats 8000000 in
theorem regsR_calls (p : Px) (f : Int) (v : Value) (w : World) (hp : PrAt w v p) (hs : Small p) (hok : POk p) :
    Calls Tryz.prog 72 #[v, .int .i64 f] w (TwoR (if findP p f = 0 then (cntP p f : Int) else 0) (findP p f) w) := by
  have hp0 := hp
  obtain ⟨vt, vf, rfl, ht, hf⟩ := hp
  obtain ⟨W, hW⟩ : ∃ W, W = w.alloc (.cells #[vt, vf] 25) := ⟨_, rfl⟩
  have hbW : Below w.heap.size w W := by rw [hW]; exact alloc_below _ _
  have k1 : W.heap[w.heap.size]? = some (.cells #[vt, vf] 25 (0, 0)) := by rw [hW]; exact alloc_new _ _
  have hpW := hp0.below hbW
  have HA := hid (asked_calls p f _ W hpW hs hok)
  have HCT := hid (fun (k : Nat) (x : Fx) (h : Has1 p f k x) (hle : parOf p.types x.sig + manyB x.blocks ≤ 1000000) wx (hx : Aft W wx) => count_calls p f k x _ wx (hpW.below hx.below) h hle)
  obtain ⟨ta, tc, rfl⟩ := ht.slice
  obtain ⟨fa, fc, rfl, _⟩ := hf.slice
  have l0 := later_cells k1 0 _ rfl; have l1 := later_cells k1 1 _ rfl
  have HBW := hid hbW
  have HW := hid hW
  have h0 := Aft.refl W
  have HS := hid hs
  clear ht hf hpW hbW hW k1 hp0 hs hok
  by_cases hz : findP p f = 0
  rotate_left
  · rw [if_neg hz]
    have e0 : (findP p f != 0) = true := by simpa using hz
    clear HCT HS hz
    generalize findP p f = fe at *
    generalize p.types.length = n1 at *
    generalize p.funcs.length = n2 at *
    go_enter Tryz.func72, Tryz.ntmps72
    go_wp2_with fail
    rw [← HW.out]
    refine HA.out.mono ?_
    rintro e w1 ⟨rfl, hb1⟩
    have h1 := h0.go hb1
    clear HA hb1
    go_wp2
    go_ret2
    exact ⟨rfl, h1.out HBW.out⟩
  obtain ⟨k, x, h1⟩ := has1 hz
  rw [if_pos hz, cnt_at h1]
  have hle : parOf p.types x.sig + manyB x.blocks ≤ 1000000 := by
    have := par_le HS.out.parts h1.sig0 h1.sig1
    have := h1.many
    omega
  have HC := hid (HCT.out k x h1 hle)
  rw [hz] at HA ⊢
  clear HCT HS hz hle h1
  generalize parOf p.types x.sig + manyB x.blocks = cnt at *
  generalize p.types.length = n1 at *
  generalize p.funcs.length = n2 at *
  go_enter Tryz.func72, Tryz.ntmps72
  go_wp2_with fail
  rw [← HW.out]
  refine HA.out.mono ?_
  rintro e w1 ⟨rfl, hb1⟩
  have h1 := h0.go hb1
  have HC1 := hid (HC.out w1 h1)
  clear HA hb1 HC
  go_wp2_with fail
  refine HC1.out.mono ?_
  rintro e w2 ⟨rfl, hb2⟩
  have h2 := h1.go hb2
  clear HC1 hb2
  go_wp2
  go_ret2
  exact ⟨rfl, h2.out HBW.out⟩
end Go.Proofs.YtkcocgdgmlmflaaGreatDoor.ShRI
namespace Go.Proofs.YtkcocgdgmlmflaaGreatDoor.FvB
open Go.RowKit Go.Lib RwO SetP IntO TyM TyP TyB TyC TyRA ShM ShP ShA ShB ShC ShE ShRA ShH ShI ShJ ShRG ShRH ShRI Aft FwP FwQ FwR FvA

set_option maxRecDepth 100000 in
set_option maxHeartbeats 8000000 in
theorem asked_calls (p : Px) (f b : Int) (v : Value) (w : World) (hp : PrAt w v p) (hs : Small p) (hok : POk p) :
    Calls Tryz.prog 57 #[v, .int .i64 f, .int .i64 b] w (NumR (askB p f b) w) := by
  have hp0 := hp
  obtain ⟨vt, vf, rfl, ht, hf⟩ := hp
  obtain ⟨W, hW⟩ : ∃ W, W = w.alloc (.cells #[vt, vf] 25) := ⟨_, rfl⟩
  have hbW : Below w.heap.size w W := by rw [hW]; exact alloc_below _ _
  have k1 : W.heap[w.heap.size]? = some (.cells #[vt, vf] 25 (0, 0)) := by rw [hW]; exact alloc_new _ _
  have hpW := hp0.below hbW
  have HR := hid (regsR_calls p f _ W hpW hs hok)
  have HFN := hid (fun (k : Nat) (x : Fx) (h1 : Has1 p f k x) => fn_later (hf.below fnStays hbW) h1)
  obtain ⟨ta, tc, rfl⟩ := ht.slice
  obtain ⟨fa, fc, rfl, _⟩ := hf.slice
  have l0 := later_cells k1 0 _ rfl; have l1 := later_cells k1 1 _ rfl
  have HBW := hid hbW
  have HW := hid hW
  have h0 := Aft.refl W
  clear ht hf hpW hbW hW k1 hp0 hs hok
  by_cases hz : findP p f = 0
  rotate_left
  · rw [ask_find hz]
    have e0 : (findP p f != 0) = true := by simpa using hz
    clear HFN hz
    rw [if_neg (by simpa using e0)] at HR
    generalize findP p f = fe at *
    generalize p.types.length = n1 at *
    generalize p.funcs.length = n2 at *
    go_enter Tryz.func57, Tryz.ntmps57
    go_wp2_with fail
    rw [← HW.out]
    refine HR.out.mono ?_
    rintro e w1 ⟨rfl, hb1⟩
    have h1 := h0.go hb1
    clear HR hb1
    go_wp2
    go_ret
    exact ⟨rfl, h1.out HBW.out⟩
  obtain ⟨k, x, h1⟩ := has1 hz
  have HAY := hid (fun h0 h1 => ask_yes (p := p) (f := f) (b := b) hz h0 h1)
  have HAN := hid (fun h => ask_no (p := p) (f := f) (b := b) hz h)
  rw [fn_blocks h1] at HAY HAN
  obtain ⟨fb, foff, fcap, ao, bc, he, d0, d1, _⟩ := HFN.out k x h1
  cases he
  rw [hz, if_pos rfl] at HR
  generalize (cntP p f : Int) = cnt at *
  have hke := h1.eq
  have hkl := h1.lt
  have hbl := h1.blocks
  have HBL := hid hbl
  clear HFN hz h1 hbl
  subst hke
  generalize askB p (k : Int) b = ans at *
  obtain ⟨sg, bl⟩ := x
  simp only at *
  generalize p.types.length = n1 at *
  generalize p.funcs.length = n2 at *
  generalize bl.length = n3 at *
  by_cases b0 : b < 0
  · have HA := hid (HAN.out (by omega))
    clear HAY HAN
    go_enter Tryz.func57, Tryz.ntmps57
    go_wp2_with fail
    rw [← HW.out]
    refine HR.out.mono ?_
    rintro e w1 ⟨rfl, hb1⟩
    have h1 := h0.go hb1
    have HE := hid (h1.out HBW.out)
    clear HR hb1
    go_wp2
    all_goals first | (exfalso; omega) | (go_ret; exact ⟨by rw [HA.out]; rfl, HE.out⟩)
  by_cases b1 : (n3 : Int) ≤ b
  · have HA := hid (HAN.out (by omega))
    clear HAY HAN
    go_enter Tryz.func57, Tryz.ntmps57
    go_wp2_with fail
    rw [← HW.out]
    refine HR.out.mono ?_
    rintro e w1 ⟨rfl, hb1⟩
    have h1 := h0.go hb1
    have HE := hid (h1.out HBW.out)
    clear HR hb1
    go_wp2
    all_goals first | (exfalso; omega) | (go_ret; exact ⟨by rw [HA.out]; rfl, HE.out⟩)
  · have HA := hid (HAY.out (by omega) (by omega))
    clear HAY HAN
    go_enter Tryz.func57, Tryz.ntmps57
    go_wp2_with fail
    rw [← HW.out]
    refine HR.out.mono ?_
    rintro e w1 ⟨rfl, hb1⟩
    have h1 := h0.go hb1
    have HE := hid (h1.out HBW.out)
    clear HR hb1
    go_wp2
    all_goals first | (exfalso; omega) | (go_ret; exact ⟨by rw [HA.out]; rfl, HE.out⟩)

end Go.Proofs.YtkcocgdgmlmflaaGreatDoor.FvB
namespace Go.Proofs.YtkcocgdgmlmflaaGreatDoor.FvB
open Go.RowKit Go.Lib RwO SetP IntO TyM TyP TyB TyC TyRA ShM ShP ShA ShB ShC ShE ShRA ShH ShI ShJ ShRG ShRH ShRI Aft FwP FwQ FwR FvA

set_option maxRecDepth 100000 in
set_option maxHeartbeats 8000000 in
theorem next_calls (p : Px) (f b : Int) (v : Value) (w : World) (hp : PrAt w v p) (hs : Small p) (hok : POk p) :
    Calls Tryz.prog 39 #[v, .int .i64 f, .int .i64 b] w (LstE (nextA p f b) (askB p f b) w) := by
  have hp0 := hp
  obtain ⟨vt, vf, rfl, ht, hf⟩ := hp
  obtain ⟨W, hW⟩ : ∃ W, W = w.alloc (.cells #[vt, vf] 25) := ⟨_, rfl⟩
  have hbW : Below w.heap.size w W := by rw [hW]; exact alloc_below _ _
  have k1 : W.heap[w.heap.size]? = some (.cells #[vt, vf] 25 (0, 0)) := by rw [hW]; exact alloc_new _ _
  have hpW := hp0.below hbW
  have HR := hid (asked_calls p f b _ W hpW hs hok)
  have HFN := hid (fun (k : Nat) (x : Fx) (h1 : Has1 p f k x) => fn_later (hf.below fnStays hbW) h1)
  obtain ⟨ta, tc, rfl⟩ := ht.slice
  obtain ⟨fa, fc, rfl, _⟩ := hf.slice
  have l0 := later_cells k1 0 _ rfl; have l1 := later_cells k1 1 _ rfl
  have HBW := hid hbW
  have HW := hid hW
  have h0 := Aft.refl W
  clear ht hf hpW hbW hW k1 hp0 hs hok
  by_cases hz : askB p f b = 0
  rotate_left
  · have HN : Hid (nextA p f b = []) := by show _ = _; unfold nextA; rw [if_neg hz]
    have e0 : (askB p f b != 0) = true := by simpa using hz
    clear HFN hz
    generalize nextA p f b = na at *
    generalize askB p f b = fe at *
    generalize p.types.length = n1 at *
    generalize p.funcs.length = n2 at *
    go_enter Tryz.func39, Tryz.ntmps39
    go_wp2_with fail
    rw [← HW.out]
    refine HR.out.mono ?_
    rintro e w1 ⟨rfl, hb1⟩
    have h1 := h0.go hb1
    clear HR hb1
    go_wp2
    go_ret2
    exact ⟨_, rfl, by rw [HN.out]; exact ints_none _, h1.out HBW.out⟩
  obtain ⟨hz1, b0, b1⟩ := ask_zero hz
  obtain ⟨k, x, h1⟩ := has1 hz1
  have HN : Hid (nextA p f b = toE (endAt x.blocks b.toNat)) := by show _ = _; unfold nextA; rw [if_pos hz, fn_blocks h1]
  rw [fn_blocks h1] at b1
  obtain ⟨j, hj⟩ : ∃ j : Nat, b = j := ⟨b.toNat, by omega⟩
  subst hj
  rw [Int.toNat_natCast] at HN
  obtain ⟨fb, foff, fcap, ao, bc, he, d0, d1, hbl⟩ := HFN.out k x h1
  cases he
  have hjl : j < x.blocks.length := by omega
  obtain ⟨eb, eoff, rfl, heL⟩ := end_later hbl j hjl
  have HT := hid (fun wx => to_calls (endAt x.blocks j) wx)
  have HTL := hid (toE_len (endAt x.blocks j))
  rw [hz] at HR ⊢
  have hke := h1.eq
  have hkl := h1.lt
  clear HFN hz h1 hz1 b0 b1 hbl
  subst hke
  generalize nextA p (k : Int) (j : Int) = na at *
  obtain ⟨sg, bl⟩ := x
  simp only at *
  generalize toE (endAt bl j) = tl at *
  generalize endAt bl j = x at *
  obtain ⟨ek, ea, et, ee⟩ := x
  simp only at *
  have q1 := fun w' h => (heL w' h).1
  have q2 := fun w' h => (heL w' h).2.1
  have q3 := fun w' h => (heL w' h).2.2.1
  have q4 := fun w' h => (heL w' h).2.2.2
  clear heL
  generalize p.types.length = n1 at *
  generalize p.funcs.length = n2 at *
  generalize bl.length = n3 at *
  go_enter Tryz.func39, Tryz.ntmps39
  go_wp2_with fail
  rw [← HW.out]
  refine HR.out.mono ?_
  rintro e w1 ⟨rfl, hb1⟩
  have h1 := h0.go hb1
  clear HR hb1
  go_wp2_with fail
  refine (HT.out w1).mono ?_
  rintro e w2 ⟨u, m, rfl, hu, hb2⟩
  have h2 := h1.go hb2
  have HU := hid (intsAt_of_owns hu (by have := HTL.out; omega))
  clear HT hb2 hu
  go_wp2
  go_ret2
  exact ⟨_, rfl, by rw [HN.out]; exact HU.out, h2.out HBW.out⟩
end Go.Proofs.YtkcocgdgmlmflaaGreatDoor.FvB
namespace Go.Proofs.YtkcocgdgmlmflaaGreatDoor.LuE
open Go.RowKit Go.Lib RwO SetP IntO TyM TyP TyB TyC TyRA TyD ShM ShP ShA ShB ShC ShE ShRA ShH ShI ShJ ShRG ShRH Aft FwM FwC FwP FwQ FwR FvA FvB LvM LvQ LuB LuM LuC

set_option maxRecDepth 100000 in
set_option maxHeartbeats 8000000 in
theorem atEnd_calls (p : Px) (f : Int) (k : Nat) (x : Fx) (b N : Nat) (X : Nat → Nat → Bool) (v vb : Value) (w : World) (hp : PrAt w v p) (hok : POk p) (hz : chkP p = 0) (h1 : Has1 p f k x) (hb : b < x.blocks.length)
    (hN : N = parOf p.types x.sig + manyB x.blocks) (hN2 : N ≤ 100000) (hv : BbAt w vb x.blocks.length N X) :
    Calls Tryz.prog 44 #[v, .int .i64 f, .int .i64 b, vb] w (VecR N (goT x.blocks X b (succ x.blocks b)) w) := by
  have hp0 := hp
  obtain ⟨vt, vf, rfl, ht, hf⟩ := hp
  obtain ⟨W, hW⟩ : ∃ W, W = w.alloc (.cells #[vt, vf] 25) := ⟨_, rfl⟩
  have hbW : Below w.heap.size w W := by rw [hW]; exact alloc_below _ _
  have k1 : W.heap[w.heap.size]? = some (.cells #[vt, vf] 25 (0, 0)) := by rw [hW]; exact TyD.alloc_new _ _
  have hR := regs_of hz hok (List.mem_of_getElem? h1.at_)
  rw [← hN] at hR
  have HR := hid hR
  have HCNT := hid (count_calls p f k x (.agg #[vt, vf]) W (hp0.below hbW) h1 (by omega))
  rw [← hN] at HCNT
  have hlow := (low_of hz hok (List.mem_of_getElem? h1.at_)).1
  obtain ⟨fb, foff, fcap, ao, bc, he, d0, d1, hbl⟩ := fn_later (hf.below fnStays hbW) h1
  cases he
  obtain ⟨gb, goff, rfl, he4⟩ := end_later hbl b hb
  have q1 := fun w' h => (he4 w' h).1
  have q2 := fun w' h => (he4 w' h).2.1
  have q3 := fun w' h => (he4 w' h).2.2.1
  have q4 := fun w' h => (he4 w' h).2.2.2
  have HT := hid (fun wx => to_calls (endAt x.blocks b) wx)
  rw [← ints_succ hlow hb] at HT
  have HSX := hid (fun j (hj : j ∈ succ x.blocks b) => succ_lt hlow b hb j hj)
  have HSL := hid (succ_len x.blocks b)
  have HBL := hid hbl
  have HVB := hid (hv.below hbW)
  have l0 := later_cells k1 0 _ rfl; have l1 := later_cells k1 1 _ rfl
  have hke := h1.eq
  have hkl := h1.lt
  have hbl1 : (b : Int) < (x.blocks.length : Int) := by omega
  have HBW := hid hbW
  have HW := hid hW
  have h0 := Aft.refl W
  have HGO := hid (fun i j (h : (succ x.blocks b)[i]? = some j) => goT_succ (l := x.blocks) (X := X) (b := b) h)
  have HIA := hid (fun j (hj : j < x.blocks.length) => (by unfold insAt; rw [List.getElem?_eq_getElem hj]; rfl : insAt x.blocks j = x.blocks[j].ins))
  have h16 := h1.blocks
  clear hp0 hok hz h1 hf ht hbW hW k1 hbl hv hR hN he4 hlow
  subst hke
  obtain ⟨sg, bl⟩ := x
  simp only at *
  generalize parOf p.types sg = par at *
  have HG0 : Hid (goT bl X b (succ bl b) = goT bl X b (succ bl b)) := rfl
  generalize succ bl b = js at *
  generalize endAt bl b = en at *
  obtain ⟨ek, ea, et, ee⟩ := en
  simp only at *
  generalize p.types.length = n1 at *
  generalize p.funcs.length = n2 at *
  obtain ⟨va, vc, rfl⟩ := HVB.out.slice
  obtain ⟨i0, hi, hz0, hz1, hz2⟩ := info_parts info_bool
  have hmk : ∀ wx : World, (Instr.makeSlice 71 (.int .i64 (N : Int)) (.int .i64 (N : Int))).run Tryz.prog wx = .ok (.slice (some ⟨wx.heap.size, 0, none⟩) N N) (wx.alloc (.cells (madeCells (Value.bool false).cells N) 4)) := by
    intro wx
    have := run_make (P := Tryz.prog) wx 71 4 i0 (.bool false) Tryz.underlying71 hi hz0 .i64 .i64 N N (by omega) (by omega) (by rw [hz2]; omega) (by omega)
    rw [hz1, Int.toNat_natCast, Nat.mul_one] at this
    exact this
  have HMADE := hid (fun wx (h : W.heap.size ≤ wx.heap.size) => own_made wx W.heap.size N h hN2)
  generalize madeCells (Value.bool false).cells N = mk at *
  clear hi hz0 hz1 hz2
  go_enter Tryz.func44, Tryz.ntmps44
  go_wp2_with fail
  rw [← HW.out]
  refine HCNT.out.mono ?_
  rintro e w1 ⟨rfl, hb1⟩
  have hA1 := h0.go hb1
  have HRW : Hid (OwnB W.heap.size (w1.alloc (.cells mk 4)) (.slice (some ⟨w1.heap.size, 0, none⟩) N N) (vec N fun _ => false)) := HMADE.out w1 hA1.size
  have hA2 : Aft W (w1.alloc (.cells mk 4)) := hA1.alloc _
  have hlt1 : w1.heap.size < (w1.alloc (.cells mk 4)).heap.size := by simp
  have HLT1 := hid hlt1
  clear HCNT hb1 hA1 HMADE hlt1
  go_wp2_with fail
  refine (HT.out _).mono ?_
  rintro e2 w2 ⟨us, m2, rfl, hus, hb2⟩
  obtain rfl : m2 = js.length := by have := hus.1; rw [intVals_length, ints_length] at this; omega
  rw [show js.length = (ints js).length from (ints_length js).symm] at hus
  have HOU := hid hus
  have HRW2 := hid (HRW.out.below hb2)
  have HA2 := hid (hA2.go hb2)
  generalize (w1.alloc (.cells mk 4)).heap.size = M at *
  generalize w1.heap.size = g0 at *
  obtain ⟨ua, un, rfl⟩ := own_slice hus
  rw [ints_length]
  have HLJ0 : Hid (Lj W M ua un (ints js) g0 N (goT bl X b (js.take 0)) w2) := ⟨HA2.out, HRW2.out, HOU.out, HLT1.out⟩
  clear hus hb2 hA2 HRW2 HA2 HOU HRW HT hmk HLT1 HG0
  go_wp2
  go_loopg [11] js.length (fun gk iv wr => ∃ i : Nat, i + gk = js.length ∧ iv = .int .i64 i ∧ Lj W M ua un (ints js) g0 N (goT bl X b (js.take i)) wr)
  case atStart => exact ⟨0, by omega, rfl, HLJ0.out⟩
  case round =>
    obtain ⟨i, hi, rfl, hlj⟩ := hrel
    have HI := hid hi
    have HLJ := hid hlj
    have hL2 : js.length ≤ 2 := HSL.out
    by_cases hlt : i < js.length
    · have HLTI := hid hlt
      have hq : js[i]? = some js[i] := List.getElem?_eq_getElem hlt
      have hjm := HSX.out js[i] (List.getElem_mem hlt)
      have hii : i < (ints js).length := by rw [ints_length]; exact hlt
      have hjl2 : (ints js).length ≤ 1000 := by rw [ints_length]; omega
      obtain ⟨b2, o2, rfl⟩ := hlj.addr hjl2 (by omega)
      have HNUM := hid (fun (g : Nat → Bool) wx (h : Lj W M (some ⟨b2, o2, none⟩) un (ints js) g0 N g wx) => nums_at hlt ▸ h.num hjl2 i hii)
      have HSTEP := hid (HGO.out i js[i] hq)
      have HIAJ := hid (HIA.out js[i] hjm)
      obtain ⟨gbb, ba, bac, rfl, cb, hbo⟩ := HVB.out.at js[i] hjm
      obtain ⟨g5, goff5, he5, -, vi, c0, -, -, -, -, hins⟩ := HBL.out.at js[i] hjm
      cases he5
      have hmem : bl[js[i]] ∈ bl := List.getElem_mem hjm
      have hfew := fewer hmem
      have hmany := HR.out.many
      have HRP := hid (fun y hy => HR.out.phi _ hmem y hy)
      have HRO := hid (fun y hy => HR.out.other _ hmem y hy)
      have HRF := hid (fun y hy => HR.out.few _ hmem y hy)
      rw [HIAJ.out] at HSTEP
      have hjl1 : (js[i] : Int) < (bl.length : Int) := by omega
      have hil1 : (i : Int) < (js.length : Int) := by omega
      clear hq HIAJ hi hii
      generalize bl[js[i]].ins = ins at *
      generalize js[i] = j at *
      obtain ⟨ia, ic, rfl, _⟩ := hins.slice
      have HINS := hid hins
      have HBO := hid hbo
      have r0 := later c0
      have r1 := later cb
      have hinl : ins.length ≤ 128 := by omega
      clear hfew hmany hmem hins hbo c0 cb hjm HLJ0
      generalize hGG : goT bl X b (js.take i) = G at *
      clear hGG
      generalize X j = Y at *
      obtain ⟨g2, hg2⟩ : ∃ g2 : Nat, g2 = gk := ⟨gk, rfl⟩
      subst hg2
      obtain ⟨wo, hwo⟩ : ∃ wo : World, wo = wr := ⟨wr, rfl⟩
      subst hwo
      clear hlj
      go_wp2
      go_loopg [12] N (fun gk rv wr => ∃ r : Nat, r + gk = N ∧ rv = .int .i64 r ∧ Lj W M (some ⟨b2, o2, none⟩) un (ints js) g0 N (midT G Y r) wr)
      case atStart => exact ⟨0, by omega, rfl, by rw [midT_zero]; exact HLJ.out⟩
      case round =>
        obtain ⟨r, hr, rfl, hlj⟩ := hrel
        have HRK := hid hr
        have HLJ2 := hid hlj
        have cj := HNUM.out _ wr hlj
        have hA := hlj.aft
        by_cases hltr : r < N
        · have HLTR := hid hltr
          obtain ⟨c1, f1⟩ := hlj.at r hltr
          rw [midT_at] at c1
          have HSET := hid (hlj.set r hltr)
          have HMS := hid (midT_succ G Y r)
          obtain ⟨b3, o3, rfl, _, cx⟩ := bools_at (HBO.out.below hA) r (by rw [vec_len]; exact hltr)
          rw [vec_at hltr] at cx
          have hrl : (r : Int) < (N : Int) := by omega
          clear hr hlj
          generalize hgr : G r = v1 at *
          have HGR := hid hgr
          generalize Y r = v2 at *
          cases v1 with
          | true =>
            have HST2 : Hid (Lj W M (some ⟨b2, o2, none⟩) un (ints js) g0 N (midT G Y (r + 1)) (wr.setCell ⟨g0, r, none⟩ (.bool true))) := by show Lj _ _ _ _ _ _ _ _ _; rw [← HMS.out, Bool.true_or]; exact HSET.out true
            clear HSET HMS hgr
            go_wp2
            go_roundg (gk - 1)
            case measure => have := HRK.out; have := HLTR.out; omega
            case rel => exact ⟨r + 1, by have := HRK.out; have := HLTR.out; omega, by go_num, HST2.out⟩
          | false =>
            have HST2 : Hid (Lj W M (some ⟨b2, o2, none⟩) un (ints js) g0 N (midT G Y (r + 1)) (wr.setCell ⟨g0, r, none⟩ (.bool v2))) := by show Lj _ _ _ _ _ _ _ _ _; rw [← HMS.out, Bool.false_or]; exact HSET.out v2
            clear HSET HMS hgr
            go_wp2
            go_roundg (gk - 1)
            case measure => have := HRK.out; have := HLTR.out; omega
            case rel => exact ⟨r + 1, by have := HRK.out; have := HLTR.out; omega, by go_num, HST2.out⟩
        · obtain rfl : N = r := by omega
          obtain ⟨G1, hG1⟩ : ∃ G1 : Nat → Bool, G1 = fun r => G r || Y r := ⟨_, rfl⟩
          have HLJ3 := hid (hlj.vec (k := G1) (fun r hr => by rw [hG1]; exact midT_all hr))
          have HGN : Hid (goT bl X b (js.take (i + 1)) = fun r => G1 r || phiT b ins r) := by show _ = _; rw [hG1]; exact HSTEP.out
          clear hG1
          clear hr hlj HRK HLJ2 hltr HLJ HSTEP HBO r1
          go_wp2
          go_region
          all_goals
            obtain ⟨wd, hwd⟩ : ∃ wd, wd = wr.drew := ⟨_, rfl⟩
            rw [← hwd]
            have HLJ4 : Hid (Lj W M (some ⟨b2, o2, none⟩) un (ints js) g0 N G1 wd) := by show Lj _ _ _ _ _ _ _ _ _; rw [hwd]; exact HLJ3.out.go ((Below.refl _ _).drew)
            clear hwd HLJ3 hA cj
            clear wr
            go_wp2
            go_loopg [14] ins.length (fun gk cv wr => ∃ c : Nat, c + gk = ins.length ∧ cv = .int .i64 c ∧ Lj W M (some ⟨b2, o2, none⟩) un (ints js) g0 N (fun r => G1 r || phiT b (ins.take c) r) wr)
            case atStart => exact ⟨0, by omega, rfl, by simp only [List.take_zero, phiT_nil, Bool.or_false]; exact HLJ4.out⟩
            case round =>
              obtain ⟨c, hc, rfl, hlj⟩ := hrel
              have HC := hid hc
              have HLJ5 := hid hlj
              by_cases hltc : c < ins.length
              · have HLTC := hid hltc
                have hmy : ins[c] ∈ ins := List.getElem_mem hltc
                obtain ⟨gi, ioff, rfl, _, ya, yf, z0, z1, z2, z3, z4, z5, z6, hya, hyf⟩ := HINS.out.at c hltc
                have HPT := hid (fun r => phi_take (b := b) (List.getElem?_eq_getElem hltc) (HRO.out _ hmy) r)
                have HRP2 := hid (HRP.out _ hmy)
                have HRO2 := hid (HRO.out _ hmy)
                have hf16 := HRF.out _ hmy
                have i5 := later z5
                have i6 := later z6
                clear z0 z1 z2 z3 z4 z5 z6 hmy hc hlj
                obtain ⟨G2, hG2⟩ : ∃ G2 : Nat → Bool, G2 = fun r => G1 r || phiT b (ins.take c) r := ⟨_, rfl⟩
                rw [← hG2] at HLJ5
                have HNX : Hid (∀ r, (G2 r || prT b ins[c].frm.length ins[c] r) = (G1 r || phiT b (ins.take (c + 1)) r)) := by
                  intro r
                  rw [HPT.out r, hG2, Bool.or_assoc]; rfl
                clear hG2 HPT
                generalize ins[c] = y at *
                obtain ⟨yop, yty, yya, yyb, yn, yar, yfr⟩ := y
                simp only at *
                obtain ⟨yaa, yac, rfl, _⟩ := ints_slice hya
                obtain ⟨yfa, yfc, rfl, _⟩ := ints_slice hyf
                have HYA := hid hya
                have HYF := hid hyf
                have hfl : yfr.length ≤ 16 := by
                  by_cases h22 : yop = 22
                  · have := (HRP2.out h22).1; omega
                  · rw [HRO2.out h22]; simp
                have hcl : (c : Int) < (ins.length : Int) := by omega
                clear hya hyf
                obtain ⟨g3, hg3⟩ : ∃ g3 : Nat, g3 = gk := ⟨gk, rfl⟩
                subst hg3
                obtain ⟨wo, hwo⟩ : ∃ wo : World, wo = wr := ⟨wr, rfl⟩
                subst hwo
                go_wp2
                go_loopg [15] yfr.length (fun gk mv wr => ∃ m : Nat, m + gk = yfr.length ∧ mv = .int .i64 m ∧ Lj W M (some ⟨b2, o2, none⟩) un (ints js) g0 N (fun r => G2 r || prT b m ⟨yop, yty, yya, yyb, yn, yar, yfr⟩ r) wr)
                case atStart => exact ⟨0, by omega, rfl, by simp only [prT_zero, Bool.or_false]; exact HLJ5.out⟩
                case round =>
                  obtain ⟨m, hm, rfl, hlj⟩ := hrel
                  have HM := hid hm
                  have HLJ6 := hid hlj
                  have hA6 := hlj.aft
                  by_cases hltm : m < yfr.length
                  · have HLTM := hid hltm
                    obtain ⟨bf, of, rfl, _, cf⟩ := TyP.ints_at (HYF.out.below hA6.below) m hltm
                    have hqf : yfr[m]? = some yfr[m] := List.getElem?_eq_getElem hltm
                    have h22 : yop = 22 := by
                      by_cases h22 : yop = 22
                      · exact h22
                      · have := HRO2.out h22
                        rw [this] at hltm
                        simp at hltm
                    obtain ⟨hla, hra⟩ := HRP2.out h22
                    have hltm2 : m < yar.length := by omega
                    obtain ⟨bga, oga, rfl, _, ca⟩ := TyP.ints_at (HYA.out.below hA6.below) m hltm2
                    have hqa : yar[m]? = some yar[m] := List.getElem?_eq_getElem hltm2
                    have hrm := hra yar[m] (List.getElem_mem hltm2)
                    obtain ⟨u, hu⟩ : ∃ u : Nat, yar[m] = u := ⟨yar[m].toNat, (Int.toNat_of_nonneg hrm.1).symm⟩
                    generalize yar[m] = ca1 at *
                    subst hu
                    generalize yfr[m] = cf1 at *
                    have huN : u < N := by have := hrm.2; omega
                    have huN1 : (u : Int) < (N : Int) := by omega
                    have hml : (m : Int) < (yfr.length : Int) := by omega
                    have hml2 : (m : Int) < (yar.length : Int) := by omega
                    obtain ⟨c1, f1⟩ := hlj.at u huN
                    have HSET := hid (hlj.set u huN true)
                    by_cases he : cf1 = (b : Int)
                    · subst he
                      have HNX2 : Hid (Lj W M (some ⟨b2, o2, none⟩) un (ints js) g0 N (fun r => G2 r || prT b (m + 1) ⟨yop, yty, yya, yyb, yn, yar, yfr⟩ r) (wr.setCell ⟨g0, u, none⟩ (.bool true))) := HSET.out.vec fun r _ => by
                        rw [prT_succ (x := ⟨yop, yty, yya, yyb, yn, yar, yfr⟩) hqf hqa]
                        by_cases e : r = u
                        · rw [if_pos e, if_pos e, Bool.or_true]
                        · rw [if_neg e, if_neg e]
                      clear hm hlj HSET hqf hqa hrm hra hla
                      go_wp2
                      go_roundg (gk - 1)
                      case measure => have := HM.out; have := HLTM.out; omega
                      case rel => exact ⟨m + 1, by have := HM.out; have := HLTM.out; omega, by go_num, HNX2.out⟩
                    · have e1 : (cf1 == (b : Int)) = false := by simpa using he
                      have HNX2 : Hid (Lj W M (some ⟨b2, o2, none⟩) un (ints js) g0 N (fun r => G2 r || prT b (m + 1) ⟨yop, yty, yya, yyb, yn, yar, yfr⟩ r) wr) := HLJ6.out.vec fun r _ => by
                        rw [prT_skip (x := ⟨yop, yty, yya, yyb, yn, yar, yfr⟩) hqf he]
                      clear hm hlj HSET hqf hqa hrm hra hla
                      go_wp2
                      go_roundg (gk - 1)
                      case measure => have := HM.out; have := HLTM.out; omega
                      case rel => exact ⟨m + 1, by have := HM.out; have := HLTM.out; omega, by go_num, HNX2.out⟩
                  · obtain rfl : m = yfr.length := by omega
                    have HNX2 : Hid (Lj W M (some ⟨b2, o2, none⟩) un (ints js) g0 N (fun r => G1 r || phiT b (ins.take (c + 1)) r) wr) := HLJ6.out.vec fun r _ => HNX.out r
                    clear hm hlj HLJ6 HM
                    go_wp2
                    go_roundg (g3 - 1)
                    case measure => have := HC.out; have := HLTC.out; omega
                    case rel => exact ⟨c + 1, by have := HC.out; have := HLTC.out; omega, by go_num, HNX2.out⟩
              · obtain rfl : c = ins.length := by omega
                rw [List.take_length] at HLJ5
                have HNX2 : Hid (Lj W M (some ⟨b2, o2, none⟩) un (ints js) g0 N (goT bl X b (js.take (i + 1))) wr) := by show Lj _ _ _ _ _ _ _ _ _; rw [HGN.out]; exact HLJ5.out
                clear hc hlj HLJ5 HC HLJ4
                go_wp2
                go_roundg (g2 - 1)
                case measure => have := HI.out; have := HLTI.out; omega
                case rel => exact ⟨i + 1, by have := HI.out; have := HLTI.out; omega, by go_num, HNX2.out⟩
    · obtain rfl : i = js.length := by omega
      rw [List.take_length] at HLJ
      have HFIN : Hid (OwnB w.heap.size wr (.slice (some ⟨g0, 0, none⟩) N N) (vec N (goT bl X b js)) ∧ Below w.heap.size w wr) := ⟨by have := HLJ.out.row; unfold OwnB at this ⊢; exact owns_base this HBW.out.size, HLJ.out.aft.out HBW.out⟩
      clear hi hlj HI HLJ0 HLJ
      generalize goT bl X b js = ans at *
      generalize js.length = jl at *
      go_wp2
      go_ret
      exact ⟨_, rfl, HFIN.out.1, HFIN.out.2⟩
end Go.Proofs.YtkcocgdgmlmflaaGreatDoor.LuE
namespace Go.Proofs.YtkcocgdgmlmflaaGreatDoor.LuL
open Go.RowKit Go.Lib RwO SetP IntO TyM TyP TyB TyC TyRA TyD ShM ShP ShA ShB ShC ShE ShRA ShH ShI ShJ ShRG ShRH Aft FwM FwC FwP FwQ FwR FvA FvB LvM LvQ LuB LuM LuC

theorem own_lt {par : Nat} {l : List Bx} {b k : Nat} (hb : b < l.length) (hk : k < l[b].ins.length) : par + (manyB (l.take b) + k) < par + manyB l := by
  have : manyB l = manyB (l.take b) + manyB (l.drop b) := by
    conv => lhs; rw [← List.take_append_drop b l]
    rw [manyB_append]
  rw [List.drop_eq_getElem_cons hb, manyB_cons] at this
  omega

set_option maxRecDepth 100000 in
set_option maxHeartbeats 8000000 in
theorem lives_calls (p : Px) (f : Int) (k : Nat) (x : Fx) (b a N : Nat) (e : Nat → Bool) (v vb : Value) (w : World) (hp : PrAt w v p) (hok : POk p) (hz : chkP p = 0) (h1 : Has1 p f k x) (hb : b < x.blocks.length) (ha : a ≤ x.blocks[b].ins.length)
    (hN : N = parOf p.types x.sig + manyB x.blocks) (hN2 : N ≤ 100000) (hv : BoolsAt w vb (vec N e)) :
    Calls Tryz.prog 24 #[v, .int .i64 f, .int .i64 b, .int .i64 a, vb] w (VecR N (wth (ownN (parOf p.types x.sig) x.blocks) b (x.blocks[b]).en e a ((x.blocks[b]).ins.drop a)) w) := by
  have hp0 := hp
  obtain ⟨vt, vf, rfl, ht, hf⟩ := hp
  obtain ⟨W, hW⟩ : ∃ W, W = w.alloc (.cells #[vt, vf] 25) := ⟨_, rfl⟩
  have hbW : Below w.heap.size w W := by rw [hW]; exact alloc_below _ _
  have k1 : W.heap[w.heap.size]? = some (.cells #[vt, vf] 25 (0, 0)) := by rw [hW]; exact TyD.alloc_new _ _
  have HPW := hid (hp0.below hbW)
  have HR := hid (regs_of hz hok (List.mem_of_getElem? h1.at_))
  have hbm : x.blocks[b] ∈ x.blocks := List.getElem_mem hb
  have hokb := hok x (List.mem_of_getElem? h1.at_) _ hbm
  have hfew := fewer hbm
  have HNUM := hid (fun i (hi : i < x.blocks[b].ins.length) wx (hx : Aft W wx) => number_calls p f k x b i (.agg #[vt, vf]) wx (HPW.out.below hx.below) h1 (by omega) (by omega) (by have := HR.out.many; omega))
  have HOL := hid (fun i (hi : i < x.blocks[b].ins.length) => own_lt (par := parOf p.types x.sig) hb hi)
  rw [← hN] at HR HOL
  have HEC := hid (fun wx => ShW.endsR_calls (x.blocks[b]).en wx hokb.1.1 hokb.1.2)
  obtain ⟨fb, foff, fcap, ao, bc, he, d0, d1, hbl⟩ := fn_later (hf.below fnStays hbW) h1
  cases he
  obtain ⟨gb, goff, rfl, hgl, vi, c0, c1, c2, c3, c4, hins⟩ := hbl.at b hb
  have q0 := later c0; have q1 := later c1; have q2 := later c2; have q3 := later c3; have q4 := later c4
  have l0 := later_cells k1 0 _ rfl; have l1 := later_cells k1 1 _ rfl
  have hke := h1.eq
  have hkl := h1.lt
  obtain ⟨ia, ic, rfl, hil⟩ := hins.slice
  have HVB := hid (hv.below hbW)
  have hbl1 : (b : Int) < (x.blocks.length : Int) := by omega
  have HUS := hid (fun y (hy : y ∈ x.blocks[b].ins) => HR.out.uses _ hbm y hy)
  have HES := hid (HR.out.ends _ hbm)
  have HIO := hid (fun y (hy : y ∈ x.blocks[b].ins) => hokb.2 y hy)
  have HAF := hid (fun y (hy : y ∈ x.blocks[b].ins) => HR.out.few _ hbm y hy)
  have HMANY := hid HR.out.many
  have HFEW := hid hfew
  have HINS := hid hins
  have HBW := hid hbW
  have HW := hid hW
  have h0 := Aft.refl W
  have hszW : W.heap.size = w.heap.size + 1 := by rw [hW]; simp
  have HSZ := hid hszW
  have HOWN : Hid (∀ i, ownN (parOf p.types x.sig) x.blocks b i = parOf p.types x.sig + (manyB (x.blocks.take b) + i)) := fun i => by unfold ownN; omega
  clear hp0 hok hz h1 hf ht hbW hW k1 hbl c0 c1 c2 c3 c4 hins hv HR hokb hbm hfew hszW hN
  subst hke
  obtain ⟨sg, bl⟩ := x
  simp only at *
  generalize ownN (parOf p.types sg) bl = own at *
  generalize parOf p.types sg = par at *
  generalize manyB (bl.take b) = nm at *
  generalize bl[b].en = en at *
  generalize bl[b].ins = ins at *
  obtain ⟨ek, ea, et, ee⟩ := en
  simp only at *
  generalize p.types.length = n1 at *
  generalize p.funcs.length = n2 at *
  generalize manyB bl = mb at *
  generalize bl.length = n3 at *
  obtain ⟨va, vc, rfl, hvl⟩ := bools_slice HVB.out
  rw [vec_len] at hvl HVB ⊢
  have hO0 : (W.alloc (.cells #[] 4)).ownsRow W.heap.size 4 1 (.slice (some ⟨w.heap.size + 1, 0, none⟩) 0 0) 0 [] := by rw [← HSZ.out]; exact ownsRow_lit W [] 4 0 rfl (by decide)
  have HO0 := hid hO0
  have HV1 := hid (HVB.out.below (alloc_below W (.cells #[] 4)))
  clear hO0
  go_enter Tryz.func24, Tryz.ntmps24
  go_wp2_with (at_builtin; rw [← HW.out]; refine wpList_clone_bools rfl (.tmp 18) (.tmp 19) rfl W.heap.size (.slice (some ⟨w.heap.size + 1, 0, none⟩) 0 0) rfl HO0.out (.slice va N vc) (vec N e) rfl HV1.out (by rw [vec_len]; exact hN2) (by rw [World.size_alloc]; omega) ?_)
  intro v1 m1 w1 hv1 hb1
  obtain rfl : N = m1 := by have := hv1.1; rw [boolVals_length, vec_len] at this; omega
  have hA1 : Aft W w1 := (alloc_below W _).trans hb1
  have HRW : Hid (OwnB W.heap.size w1 v1 (vec N e)) := by show OwnB _ _ _ _; unfold OwnB; rw [vec_len]; exact hv1
  obtain ⟨vo, vn, rfl⟩ := own_slice hv1
  have HLT := hid hv1.lt
  have HLK0 : Hid (Lk W w1.heap.size (.cells #[.slice ia ins.length ic, .int .u8 ek, .int .i64 ea, .int .i64 et, .int .i64 ee] 47 (0, 0)) vo N vn e (w1.alloc (.cells #[.slice ia ins.length ic, .int .u8 ek, .int .i64 ea, .int .i64 et, .int .i64 ee] 47))) :=
    ⟨hA1.alloc _, TyD.alloc_new _ _, OwnB.below HRW.out (alloc_below _ _), fun k hk => (HLT.out k hk).2⟩
  have HEL : Hid ((endsOf ⟨ek, ea, et, ee⟩).length ≤ 1) := by show _ ≤ _; unfold endsOf; split <;> simp
  have HWN := hid (fun q => wth_nil own b ⟨ek, ea, et, ee⟩ e q)
  have HWC := hid (fun q y ys => wth_cons own b ⟨ek, ea, et, ee⟩ e q y ys)
  clear hv1 hb1 HO0 HV1 HVB hvl
  generalize endsOf ⟨ek, ea, et, ee⟩ = L at *
  go_wp2_with fail
  refine (HEC.out _).mono ?_
  rintro e1 w2 ⟨us, m2, rfl, hus, hb2⟩
  obtain rfl : m2 = L.length := by have := hus.1; rw [intVals_length] at this; omega
  have HLK1 := hid (HLK0.out.go hb2)
  have HUS2 := hid hus
  obtain ⟨ua, un, rfl⟩ := own_slice hus
  clear HLK0 hb2 hus HRW HLT hA1 HEC
  have hmM : w1.heap.size < (w1.alloc (.cells #[.slice ia ins.length ic, .int .u8 ek, .int .i64 ea, .int .i64 et, .int .i64 ee] 47)).heap.size := by simp
  generalize (w1.alloc (.cells #[.slice ia ins.length ic, .int .u8 ek, .int .i64 ea, .int .i64 et, .int .i64 ee] 47)).heap.size = M at *
  have HMM := hid hmM
  generalize w1.heap.size = m at *
  clear hmM
  have HWT := hid (fun q (xs : List Ix) => (rfl : wth own b ⟨ek, ea, et, ee⟩ e q xs = wth own b ⟨ek, ea, et, ee⟩ e q xs))
  go_wp2_with fail
  go_loopg [14] L.length (fun gk iv wr => ∃ j : Nat, j + gk = L.length ∧ iv = .int .i64 j ∧ Lk W m (.cells #[.slice ia ins.length ic, .int .u8 ek, .int .i64 ea, .int .i64 et, .int .i64 ee] 47 (0, 0)) vo N vn (litT (L.take j) e) wr ∧ wr.ownsRow M 3 1 (.slice ua L.length un) L.length (intVals L))
  case atStart => exact ⟨0, by omega, rfl, by rw [List.take_zero, litT_nil]; exact HLK1.out, HUS2.out⟩
  case round =>
    obtain ⟨j, hj, rfl, hlk, hou⟩ := hrel
    have HJ := hid hj
    have HLK := hid hlk
    have HOU := hid hou
    by_cases hlt : j < L.length
    · have HLTJ := hid hlt
      have hai := intsAt_of_owns hou (by have := HEL.out; omega)
      obtain ⟨b2, o2, rfl, _, cL⟩ := TyP.ints_at hai j hlt
      have hmem := HES.out L[j] (List.getElem_mem hlt)
      have hq : L[j]? = some L[j] := List.getElem?_eq_getElem hlt
      obtain ⟨u, hu⟩ : ∃ u : Nat, L[j] = u := ⟨L[j].toNat, (Int.toNat_of_nonneg hmem.1).symm⟩
      generalize L[j] = c at *
      subst hu
      have huN : u < N := by have := hmem.2; omega
      have HLS := hid (litT_succ (g := e) hq)
      obtain ⟨g0, rfl, hgm, hc, hfz, hset⟩ := hlk.set u huN
      have HSET := hid (hset true)
      have HOS := hid (owns_set (i := u) (u := .bool true) hou (show g0 < M by have := HMM.out; omega))
      have huN1 : (u : Int) < (N : Int) := by omega
      have hL1 : L.length ≤ 1 := HEL.out
      have hjl : (j : Int) < (L.length : Int) := by omega
      clear hj hlk hou hai hset hq hmem
      go_wp2
      go_roundg (gk - 1)
      case measure => have := HJ.out; have := HLTJ.out; omega
      case rel => exact ⟨j + 1, by have := HJ.out; have := HLTJ.out; omega, by go_num, by rw [HLS.out]; exact HSET.out, HOS.out⟩
    · obtain rfl : j = L.length := by omega
      rw [List.take_length] at hlk
      have cm0 := hlk.cells 0 _ rfl
      clear hj hou HJ HOU HEL HLK1 HUS2 HLK
      have HST : Hid (Lk W m (.cells #[.slice ia ins.length ic, .int .u8 ek, .int .i64 ea, .int .i64 et, .int .i64 ee] 47 (0, 0)) vo N vn (wth own b ⟨ek, ea, et, ee⟩ e ins.length (ins.drop ins.length)) wr) := by
        show Lk _ _ _ _ _ _ _ _
        rw [List.drop_length, HWN.out]
        exact hlk
      have HCON := hid (fun t (ht : t < ins.length) => (List.drop_eq_getElem_cons ht : ins.drop t = _))
      clear HWN HES hlk
      generalize L.length = ll at *
      go_wp2
      go_loopg [15] (ins.length - a) (fun gk iv wr => ∃ (t : Nat) (z : Int), z + 1 = t ∧ t = a + gk ∧ t ≤ ins.length ∧ iv = .int .i64 z ∧ Lk W m (.cells #[.slice ia ins.length ic, .int .u8 ek, .int .i64 ea, .int .i64 et, .int .i64 ee] 47 (0, 0)) vo N vn (wth own b ⟨ek, ea, et, ee⟩ e t (ins.drop t)) wr)
      case atStart => exact ⟨ins.length, (ins.length : Int) - 1, by omega, by omega, Nat.le_refl _, by go_num, HST.out⟩
      case round =>
        obtain ⟨t, z, htz, hta, htl, rfl, hlk2⟩ := hrel
        clear HST cm0
        by_cases hlt2 : a < t
        · obtain ⟨q, rfl⟩ : ∃ q, t = q + 1 := ⟨t - 1, by omega⟩
          obtain rfl : z = (q : Int) := by omega
          have hql : q < ins.length := by omega
          have HQ : Hid (q + 1 = a + gk) := hta
          have HQL := hid hql
          have hqa : (a : Int) ≤ (q : Int) := by omega
          have hql1 : (q : Int) < (ins.length : Int) := by omega
          have HN1 := hid (HNUM.out q hql wr hlk2.aft)
          have huN := HOL.out q hql
          have hownq := HOWN.out q
          have hcq := HCON.out q hql
          have HSTEP : Hid (wth own b ⟨ek, ea, et, ee⟩ e q (ins.drop q) = litT (LuM.seen ins[q]) (offT (par + (nm + q)) (wth own b ⟨ek, ea, et, ee⟩ e (q + 1) (ins.drop (q + 1))))) := by show _ = _; rw [hcq, HWC.out, hownq]; rfl
          have hmy : ins[q] ∈ ins := List.getElem_mem hql
          obtain ⟨gi, ioff, rfl, hgl2, ya, yf, z0, z1, z2, z3, z4, z5, z6, hya, hyf⟩ := HINS.out.at q hql
          have i0 := later z0; have i1 := later z1; have i2 := later z2; have i3 := later z3; have i4 := later z4; have i5 := later z5; have i6 := later z6
          have hio := HIO.out _ hmy
          have HUC := hid (fun wx (hx : Aft W wx) => ShV.usesR_calls ins[q] ya yf wx hio.1 hio.2 (hya.below hx.below) (by have := HAF.out _ hmy; omega) (by obtain ⟨a1, c1, h, _⟩ := ints_slice hyf; exact ⟨_, _, _, h⟩))
          have HUR := hid (HUS.out _ hmy)
          have HFW : Hid ((usesOf ins[q]).length ≤ 20) := by
            show _ ≤ _
            have := HAF.out _ hmy
            unfold usesOf
            simp only [List.length_append]
            split <;> split <;> split <;> simp <;> omega
          have HSEE : Hid (LuM.seen ins[q] = if ins[q].op = 22 then [] else usesOf ins[q]) := rfl
          obtain ⟨yaa, yac, rfl, _⟩ := ints_slice hya
          obtain ⟨yfa, yfc, rfl, _⟩ := ints_slice hyf
          clear hmy hio z0 z1 z2 z3 z4 z5 z6 hya hyf hgl2 hcq hownq hta htl htz hlt2
          generalize ins[q] = y at *
          generalize wth own b ⟨ek, ea, et, ee⟩ e (q + 1) (ins.drop (q + 1)) = g1 at *
          generalize par + (nm + q) = u at *
          obtain ⟨yop, yty, yya, yyb, yn, yar, yfr⟩ := y
          simp only at *
          have HLK2 := hid hlk2
          clear hlk2
          have hA0 := HLK2.out.aft
          go_wp2_with fail
          refine HN1.out.mono ?_
          rintro e3 w3 ⟨rfl, hb3⟩
          have hlk3 := HLK2.out.go hb3
          obtain ⟨g0, rfl, hgm, hc, hfz, hset⟩ := hlk3.set u huN
          have HSET := hid (hset false)
          have huN1 : (u : Int) < (N : Int) := by omega
          have hA4 := HSET.out.aft
          have cm0 := HSET.out.cells 0 _ rfl
          have HU1 := hid (HUC.out _ hA4)
          clear HN1 hb3 hlk3 hset HLK2 hA0
          have HMS : Hid (g0 < (w3.setCell ⟨g0, u, none⟩ (.bool false)).heap.size) := by
            have h1 := (Array.getElem?_eq_some_iff.1 HSET.out.blk).1
            show g0 < _
            omega
          go_wp2_with fail
          refine HU1.out.mono ?_
          rintro e5 w5 ⟨us2, m2, rfl, hus2, hb5⟩
          obtain rfl : m2 = (usesOf ⟨yop, yty, yya, yyb, yn, yar, yfr⟩).length := by have := hus2.1; rw [intVals_length] at this; omega
          have HLK5 : Hid (Lk W m (.cells #[.slice (some ⟨gi, ioff, none⟩) ins.length ic, .int .u8 ek, .int .i64 ea, .int .i64 et, .int .i64 ee] 47 (0, 0)) (some ⟨g0, 0, none⟩) N vn (offT u g1) w5) := HSET.out.go hb5
          have HOU5 := hid hus2
          obtain ⟨ub, ubn, rfl⟩ := own_slice hus2
          clear hb5 hus2 HU1 hA4 cm0 HSET hc hfz HUC
          generalize usesOf ⟨yop, yty, yya, yyb, yn, yar, yfr⟩ = U at *
          generalize (w3.setCell ⟨g0, u, none⟩ (.bool false)).heap.size = M2 at *
          clear w3
          obtain ⟨g2k, hg2k⟩ : ∃ g2k : Nat, g2k = gk := ⟨gk, rfl⟩
          subst hg2k
          by_cases h22 : yop = 22
          · rw [if_pos h22] at HSEE
            rw [HSEE.out, litT_nil] at HSTEP
            have e22 : (yop != 22) = false := by simp [h22]
            clear HSEE h22
            go_wp2_with fail
            go_loopg [17] 0 (fun gk4 kv wr => kv = .int .i64 0 ∧ Lk W m (.cells #[.slice (some ⟨gi, ioff, none⟩) ins.length ic, .int .u8 ek, .int .i64 ea, .int .i64 et, .int .i64 ee] 47 (0, 0)) (some ⟨g0, 0, none⟩) N vn (offT u g1) wr)
            case atStart => exact ⟨rfl, HLK5.out⟩
            case round =>
              obtain ⟨rfl, hlk6⟩ := hrel
              have hA6 := hlk6.aft
              have cm6 := hlk6.cells 0 _ rfl
              have HLK6 := hid hlk6
              clear hlk6
              by_cases h0l : 0 < U.length
              all_goals
                go_wp2
                go_roundg (g2k - 1)
                case measure => have := HQ.out; have := HQL.out; omega
                case rel => exact ⟨q, (q : Int) - 1, by omega, by have := HQ.out; omega, by have := HQL.out; omega, by go_num, by rw [HSTEP.out]; exact HLK6.out⟩
          · rw [if_neg h22] at HSEE
            rw [HSEE.out] at HSTEP
            have e22 : (yop != 22) = true := by simp [h22]
            clear HSEE h22
            go_wp2_with fail
            go_loopg [17] U.length (fun gk4 kv wr => ∃ j : Nat, j + gk4 = U.length ∧ kv = .int .i64 j ∧ Lk W m (.cells #[.slice (some ⟨gi, ioff, none⟩) ins.length ic, .int .u8 ek, .int .i64 ea, .int .i64 et, .int .i64 ee] 47 (0, 0)) (some ⟨g0, 0, none⟩) N vn (litT (U.take j) (offT u g1)) wr ∧ wr.ownsRow M2 3 1 (.slice ub U.length ubn) U.length (intVals U))
            case atStart => exact ⟨0, by omega, rfl, by rw [List.take_zero, litT_nil]; exact HLK5.out, HOU5.out⟩
            case round =>
              obtain ⟨j, hj, rfl, hlk6, hou⟩ := hrel
              have HJ := hid hj
              have hA6 := hlk6.aft
              have cm6 := hlk6.cells 0 _ rfl
              have HLK6 := hid hlk6
              have hU1 : U.length ≤ 20 := HFW.out
              by_cases hlt : j < U.length
              · have HLTJ := hid hlt
                have hai := intsAt_of_owns hou (by omega)
                obtain ⟨b2, o2, rfl, _, cL⟩ := TyP.ints_at hai j hlt
                have hmem := HUR.out U[j] (List.getElem_mem hlt)
                have hq : U[j]? = some U[j] := List.getElem?_eq_getElem hlt
                obtain ⟨u2, hu⟩ : ∃ u : Nat, U[j] = u := ⟨U[j].toNat, (Int.toNat_of_nonneg hmem.1).symm⟩
                generalize U[j] = c at *
                subst hu
                have huN2 : u2 < N := by have := hmem.2; omega
                have HLS := hid (litT_succ (g := offT u g1) hq)
                obtain ⟨g0', he, hgm', hc, hfz, hset⟩ := hlk6.set u2 huN2
                cases he
                have HSET := hid (hset true)
                have HOS := hid (owns_set (i := u2) (u := .bool true) hou HMS.out)
                have huN3 : (u2 : Int) < (N : Int) := by omega
                have hjl : (j : Int) < (U.length : Int) := by omega
                clear hj hlk6 hou hai hset hq hmem HLK5 HOU5
                go_wp2
                go_roundg (gk - 1)
                case measure => have := HJ.out; have := HLTJ.out; omega
                case rel => exact ⟨j + 1, by have := HJ.out; have := HLTJ.out; omega, by go_num, by rw [HLS.out]; exact HSET.out, HOS.out⟩
              · obtain rfl : j = U.length := by omega
                rw [List.take_length] at HLK6
                clear hj hlk6 hou HJ HLK5 HOU5
                go_wp2
                go_roundg (g2k - 1)
                case measure => have := HQ.out; have := HQL.out; omega
                case rel => exact ⟨q, (q : Int) - 1, by omega, by have := HQ.out; omega, by have := HQL.out; omega, by go_num, by rw [HSTEP.out]; exact HLK6.out⟩
        · obtain rfl : t = a := by omega
          have hza : z < (t : Int) := by omega
          have HLK2 := hid hlk2
          have HFIN : Hid (OwnB w.heap.size wr (.slice vo N vn) (vec N (wth own b ⟨ek, ea, et, ee⟩ e t (ins.drop t))) ∧ Below w.heap.size w wr) := ⟨by have := hlk2.row; unfold OwnB at this ⊢; exact owns_base this HBW.out.size, hlk2.aft.out HBW.out⟩
          generalize wth own b ⟨ek, ea, et, ee⟩ e t (ins.drop t) = g2 at *
          clear hlk2 HLK2 hta htl htz hlt2
          go_wp2
          go_ret
          exact ⟨_, rfl, HFIN.out.1, HFIN.out.2⟩
end Go.Proofs.YtkcocgdgmlmflaaGreatDoor.LuL
