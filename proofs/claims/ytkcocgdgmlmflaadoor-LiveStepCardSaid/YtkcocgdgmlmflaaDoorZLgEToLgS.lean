/- Walk over fescuelaw11.LiveEnd. Walk over fescuelaw11.LiveStep. -/
import Derived.Test.YtkcocgdgmlmflaaDoorZFkNToLiB
import Derived.Test.YtkcocgdgmlmflaaDoorZShIToShJ
import Derived.Test.YtkcocgdgmlmflaaDoorZShBToShW
import Derived.Test.YtkcocgdgmlmflaaDoorZShOpenToFeZ2
import Derived.Test.YtkcocgdgmlmflaaDoorZTyBToTyRI
import Derived.Test.YtkcocgdgmlmflaaDoorZFwRToRwO
import Derived.Deep.RegionHeld3
import Derived.Test.YtkcocgdgmlmflaaDoorZLiCToLgX
namespace Go.Proofs.YtkcocgdgmlmflaaDoor.LgE
open Go.RowKit Go.Lib RwO SetP IntO TyM TyP TyB TyC TyRE ShM ShP ShA ShB ShC ShE ShI ShJ ShR ShOpen Aft Fresh LwT FwM FwC FwP FwQ FwR FwO FwK FvA FvB FdQ LvM LvQ LgK LuM LgC LgD LgN ShH ShJ ShK IntG BlkG

set_option maxRecDepth 100000 in
set_option maxHeartbeats 16000000 in
theorem walk_of (CA : AtC) (CE : EndC) (CN : NextC) (W : World) (v : Value) (p : Px) (S : PrAt W v p) (_ : ∀ y ∈ p.types, TyOk y) (z : ∀ y ∈ p.funcs, FxOk y) (ln : Lens p) (f : Int) (fw : (Lit.int .i64 f).wf = true) (b : Int) (bw : (Lit.int .i64 b).wf = true) (ht : Tab W) :
    Calls Tryd.prog 5 #[v, .int .i64 f, .int .i64 b] W fun e W' => e = .returned (.bool true) ∧ Below W.heap.size W W' := by
  have v64f : I64 f := i64_wf fw
  have v64b : I64 b := i64_wf bw
  have hok : POk p := fun f hf b hb => ⟨(z f hf b hb).1, fun y hy => ((z f hf b hb).2 y hy).1⟩
  have HOK := hid hok
  have hp0 := S
  obtain ⟨vt, vf, rfl, hvt, hvf⟩ := S
  obtain ⟨W0, hW0⟩ : ∃ W0, W0 = W.alloc (.cells #[vt, vf] 29) := ⟨_, rfl⟩
  have hbW : Below W.heap.size W W0 := by rw [hW0]; exact alloc_below _ _
  have k1 : W0.heap[W.heap.size]? = some (.cells #[vt, vf] 29 (0, 0)) := by rw [hW0]; exact alloc_new _ _
  have HP := hid (hp0.below hbW)
  have HT := hid (ht.on hbW)
  have HAL := hid (alive_of CA CE W0 HT.out)
  have HG := hid (fun wx (h : Aft W0 wx) => ShR.great_calls p _ 200 wx (HP.out.below h.below) ln (by decide) (by decide))
  obtain ⟨ta, tc, rfl⟩ := hvt.slice
  obtain ⟨fa, fc, rfl, _⟩ := hvf.slice
  have l0 : ∀ w', Aft W0 w' → w'.cell? ⟨W.heap.size, 0, none⟩ = some (.slice ta p.types.length tc) := later_cells k1 0 _ rfl
  have l1 : ∀ w', Aft W0 w' → w'.cell? ⟨W.heap.size, 1, none⟩ = some (.slice fa p.funcs.length fc) := later_cells k1 1 _ rfl
  have HBW := hid hbW
  have HW := hid hW0
  have h0 := Aft.refl W0
  have HIf := hid v64f
  have HIb := hid v64b
  clear hvt hvf hp0 hbW hW0 k1 z ln ht hok v64f fw v64b bw
  generalize p.types.length = n1 at *
  generalize p.funcs.length = n2 at *
  go_enter Tryd.func5, Tryd.ntmps5
  go_wp2_with fail
  rw [← HW.out]
  refine HAL.out.mono ?_
  rintro e w1 ⟨rfl, hb1⟩
  have h1 := h0.go hb1
  have HG1 := hid (HG.out w1 h1)
  clear HAL hb1 HG
  go_wp2_with fail
  refine HG1.out.mono ?_
  rintro e w2 ⟨gb, rfl, hsmall, hb2⟩
  have h2 := h1.go hb2
  clear HG1 hb2
  cases gb with
  | true =>
    clear hsmall
    go_wp2
    go_ret
    exact ⟨rfl, h2.out HBW.out⟩
  | false =>
  have HS := hid (hsmall rfl)
  clear hsmall h1 h0
  have HC := hid (CE p f b _ w2 (HP.out.below h2.below) (HT.out.on h2.below) HS.out HOK.out HIf.out HIb.out)
  go_wp2_with fail
  refine HC.out.mono ?_
  rintro e w3 ⟨u, rfl, hu, hb3⟩
  have h3 := h2.go hb3
  have HU3 := hid hu
  obtain ⟨qa, qc, rfl, _⟩ := ints_slice hu
  have HR := hid (regsP_calls p f _ w3 (HP.out.below h3.below) (HT.out.on h3.below) HS.out HOK.out)
  clear HC hb3 hu h2
  go_wp2_with fail
  refine HR.out.mono ?_
  rintro e w4 ⟨rfl, hb4⟩
  obtain ⟨cn, hcn⟩ : ∃ cn : Int, cn = (if findP p f = 0 then (cntP p f : Int) else 0) := ⟨_, rfl⟩
  rw [← hcn]
  have HCN := hid hcn
  clear hcn
  have h4 := h3.go hb4
  have HU4 := hid (HU3.out.below hb4)
  clear HU3
  have HN := hid (CN p f b _ w4 (HP.out.below h4.below) (HT.out.on h4.below) HS.out HOK.out HIf.out HIb.out)
  clear HR hb4 h3
  go_wp2_with fail
  refine HN.out.mono ?_
  rintro e w5 ⟨u5, rfl, hu5, hb5⟩
  have h5 := h4.go hb5
  have HU := hid (HU4.out.below hb5)
  clear HU4
  have HV := hid hu5.1
  obtain ⟨na, nc, rfl, _⟩ := ints_slice hu5.1
  clear HN hb5 hu5 h4
  by_cases hz : askB p f b = 0
  rotate_left
  · have HA : Hid (lendA p f b = []) := by show _ = _; unfold lendA; rw [if_neg hz]
    have e0 : (askB p f b != 0) = true := by simpa using hz
    rw [HA.out]
    clear HU HV HA hz
    generalize askB p f b = ae at *
    generalize findP p f = fe at *
    go_wp2
    all_goals (go_ret; exact ⟨rfl, h5.out HBW.out⟩)
  obtain ⟨hz1, b0, b1⟩ := ask_zero hz
  obtain ⟨j, hj⟩ : ∃ j : Nat, b = j := ⟨b.toNat, by omega⟩
  subst hj
  obtain ⟨k, x, hx⟩ := has1 hz1
  obtain ⟨hlow, _, hl16⟩ := low_fn HOK.out hz1
  have hnx := next_succ (b := j) HOK.out hz
  rw [hz, hz1]
  obtain ⟨vt0, vf0, he0, ht0, hf0⟩ := HP.out
  cases he0
  obtain ⟨fb, foff, fcap, ao, bc, he, d0, d1, hbl⟩ := fn_later hf0 hx
  cases he
  have hbls := fn_blocks hx
  rw [hbls] at b1 hlow hl16 hnx
  have hjl : j < x.blocks.length := by omega
  obtain ⟨N, hN⟩ : ∃ N, N = parOf p.types x.sig + manyB x.blocks := ⟨_, rfl⟩
  have hcnt : cntP p f = N := by rw [cnt_at hx, hN]
  have hN2 : N ≤ 20200 := by
    have := par_le HS.out.parts hx.sig0 hx.sig1
    have := hx.many
    omega
  have hpar : parP p f = parOf p.types x.sig := by
    unfold parP ShK.fnP
    rw [hx.eq, Int.toNat_natCast, hx.at_]
    rfl
  have hlv : ∀ c : Nat, c < x.blocks.length → atE p f (c : Int) 0 = 0 ∧ liveA p f (c : Int) 0 = ints (livesL (parOf p.types x.sig) N x.blocks c 0) := by
    intro c hc
    have h0 : atE p f (c : Int) 0 = 0 := by
      rw [atE_first]
      exact ask_yes hz1 (by omega) (by rw [hbls]; omega)
    refine ⟨h0, ?_⟩
    unfold liveA
    rw [if_pos h0, hcnt, hpar, hbls, Int.toNat_natCast]
    rfl
  have hle : lendA p f (j : Int) = ints (endsL (parOf p.types x.sig) N x.blocks j) := by
    unfold lendA
    rw [if_pos hz, hcnt, hpar, hbls, Int.toNat_natCast]
  rw [hle, ints_length] at HU ⊢
  have hcn : cn = (N : Int) := by rw [HCN.out, if_pos hz1, hcnt]
  subst hcn
  clear HCN
  rw [hnx, ints_length] at HV ⊢
  have hR : Regs N x.blocks := by rw [hN]; exact regs_of (find_zero hz1).1 HOK.out (List.mem_of_getElem? hx.at_)
  have HR := hid hR
  have HLV := hid hlv
  have HLOW := hid hlow
  have HGO := hid (fun r (hr : r < N) => goL_mem (par := parOf p.types x.sig) (N := N) hlow hjl hr)
  have HTL := hid (succ_lt hlow j hjl)
  have HT2 := hid (succ_len x.blocks j)
  have HN2 := hid hN2
  have HBL := hid hbl
  have HAT := hid (fun c (hc : c < x.blocks.length) (wx : World) (h : Aft W0 wx) => CA p f (c : Int) 0 _ wx (HP.out.below h.below) (HT.out.on h.below) HS.out HOK.out HIf.out ⟨by omega, by omega⟩ ⟨by decide, by decide⟩)
  have hke := hx.eq
  have hkl := hx.lt
  have r0 : ∀ w', Aft w5 w' → w'.cell? ⟨W.heap.size, 0, none⟩ = some (.slice ta n1 tc) := fun w' h => l0 w' (h5.trans h)
  have r1 : ∀ w', Aft w5 w' → w'.cell? ⟨W.heap.size, 1, none⟩ = some (.slice (some ⟨fb, foff, none⟩) p.funcs.length fc) := fun w' h => l1 w' (h5.trans h)
  have e1 : ∀ w', Aft w5 w' → w'.cell? ⟨fb, foff + k * 2 + 1, none⟩ = some (.slice ao x.blocks.length bc) := fun w' h => d1 w' (h5.trans h)
  have H5 := hid h5
  subst hke
  clear hbls hlow hl16 hnx hcnt hpar hlv hle hR hbl ht0 hf0 hz hz1 b0 b1 hx hN l0 l1 d0 d1 h5 hN2
  obtain ⟨par, hpar⟩ : ∃ par, par = parOf p.types x.sig := ⟨_, rfl⟩
  rw [← hpar] at HLV HGO HU
  rw [← hpar]
  obtain ⟨sg, bl⟩ := x
  simp only at *
  clear hpar
  generalize endsL par N bl j = now at *
  have HTT : Hid (goL par N bl j (succ bl j) = goL par N bl j ((succ bl j).take (succ bl j).length)) := by show _ = _; rw [List.take_length]
  have HGS := hid (fun (i c : Nat) (h : (succ bl j)[i]? = some c) => goL_succ (par := par) (N := N) (l := bl) (b := j) h)
  have HGL := hid (fun (i : Nat) => goL_few (par := par) (b := j) HR.out HN2.out HTL.out HT2.out i)
  rw [HTT.out] at HGO
  generalize succ bl j = tl at *
  go_wp2_with fail
  go_loopg [14, 15] tl.length (fun gk u iv wr => ∃ i : Nat, i + gk = tl.length ∧ iv = .int .i64 i ∧ wr.ownsRow w5.heap.size 3 1 u (goL par N bl j (tl.take i)).length (intVals (goL par N bl j (tl.take i))) ∧ Aft w5 wr)
  case atStart => exact ⟨0, by omega, rfl, World.ownsRow_nil _ _ _ _, Aft.refl _⟩
  case round =>
    obtain ⟨i, hi, rfl, hown, hA⟩ := hrel
    have HI := hid hi
    have HOWN := hid hown
    obtain ⟨ua, un, rfl⟩ := own_slice hown
    have HGN := hid (HGL.out i)
    clear hi hown
    by_cases hit : i < tl.length
    · have HIT := hid hit
      obtain ⟨c, hc⟩ := some_at hit
      have hcl : c < bl.length := HTL.out c (List.mem_of_getElem? hc)
      obtain ⟨b2, o2, rfl, c2⟩ := nat_at HV.out hc
      have cs := later c2
      have hil : (i : Int) < (tl.length : Int) := by omega
      have hib : i ≤ 9223372036854775806 := by have := HT2.out; omega
      have hAd := hA.drew
      have HCC := hid (HAT.out c hcl wr.drew (H5.out.trans hAd))
      rw [(HLV.out c hcl).1, (HLV.out c hcl).2] at HCC
      have HGS1 := hid (HGS.out i c hc)
      have HCL := hid hcl
      have HXF := hid (insAt_facts HR.out hcl)
      have HXL := hid (fun k => insL_few (b := j) HR.out hcl k)
      have HVL := hid (livesL_len par N bl c 0)
      obtain ⟨gb, goff, xa, xc, rfl, z0, hins, _, _, _, _⟩ := blk_ins HBL.out hcl
      have s0 : ∀ w', Aft w5 w' → w'.cell? ⟨gb, goff + c * 5, none⟩ = some (.slice xa (insAt bl c).length xc) := fun w' h => z0 w' (H5.out.trans h)
      have HINS := hid hins
      have hci : (c : Int) < (bl.length : Int) := by omega
      clear c2 hins z0 hc
      generalize insAt bl c = xs at *
      generalize livesL par N bl c 0 = lv at *
      go_wp2_with fail
      go_region_held3 (fun w' => Aft w5 w') (first | exact hAd.go hb6 | exact hAd)
        ((go_at_call 7; (with_reducible refine HCC.out.mono ?_); rintro e w6 ⟨lu, rfl, hlu, hb6⟩))
      all_goals
        have hrd := (Aft.refl wr).drew
        have h6 := hAd.go hb6
        have HO6 := hid (ownsRow_below HOWN.out (hrd.go hb6).below)
        have HLU := hid hlu
        obtain ⟨la, lc, rfl, _⟩ := ints_slice hlu
        rw [ints_length] at HLU
        rw [ints_length]
        clear HCC hlu hb6 hrd hAd HOWN
        have hsz6 : w5.heap.size ≤ w6.heap.size := h6.size
        have hn6 : (goL par N bl j (tl.take i)).length ≤ 100000 := by have := HGN.out; omega
        have hl6 : (ints lv).length ≤ 100000 := by rw [ints_length]; have := HVL.out; have := HN2.out; omega
        go_wp2_with (at_builtin; refine wpList_append_ints rfl (.tmp 82) (.tmp 83) rfl w5.heap.size (.slice ua (goL par N bl j (tl.take i)).length un) rfl (goL par N bl j (tl.take i)).length (intVals (goL par N bl j (tl.take i))) HO6.out hn6 (.slice la lv.length lc) (ints lv) rfl HLU.out hl6 hsz6 ?_)
        intro v7 w7 hown7 hgr7
        have hA7 : Aft w5 w7 := h6.below.grown hgr7 hsz6 fun q hq => (HO6.out.lt q hq).1
        have HA7 : Hid (w7.ownsRow w5.heap.size 3 1 v7 (goL par N bl j (tl.take i) ++ ints lv).length (intVals (goL par N bl j (tl.take i) ++ ints lv))) := by
          show World.ownsRow _ _ _ _ _ _ _
          rw [intVals_append, List.length_append]
          exact hown7
        obtain ⟨xa7, xc7, rfl⟩ := own_slice hown7
        clear HO6 HLU hown7 hgr7 hsz6 hn6 hl6 h6
        obtain ⟨A, hAe⟩ : ∃ A, A = goL par N bl j (tl.take i) ++ ints lv := ⟨_, rfl⟩
        have hlen7 : (goL par N bl j (tl.take i)).length + (ints lv).length = A.length := by rw [hAe, List.length_append]
        rw [← hAe] at HA7 HGS1
        rw [hlen7] at HA7
        rw [hlen7]
        have HAL2 : Hid (A.length ≤ 80000) := by
          show _ ≤ _
          rw [← hlen7, ints_length]
          have := HGN.out; have := HVL.out; have := HN2.out
          omega
        clear hAe hlen7 HGN HVL hA
        have hAd := hA7.drew
        obtain ⟨g1, hg1⟩ : ∃ g1 : Nat, g1 = gk := ⟨gk, rfl⟩
        subst hg1
        go_wp2_with fail
        go_region_held3 (fun w' => Aft w5 w') (exact hAd) (fail)
        all_goals
          have HA8 : Hid ((w7.drew).ownsRow w5.heap.size 3 1 (.slice xa7 A.length xc7) A.length (intVals A)) := by show World.ownsRow _ _ _ _ _ _ _; exact ownsRow_below HA7.out ((Aft.refl w7).drew).below
          obtain ⟨w8, hw8⟩ : ∃ w8, w8 = w7.drew := ⟨_, rfl⟩
          rw [← hw8] at HA8 hAd
          rw [← hw8]
          clear hw8 HA7 hA7 cs s0
          go_wp2_with fail
          go_loopg [14, 19] xs.length (fun gk u kv wr => ∃ k2 : Nat, k2 + gk = xs.length ∧ kv = .int .i64 k2 ∧ wr.ownsRow w5.heap.size 3 1 u (A ++ insL j (xs.take k2)).length (intVals (A ++ insL j (xs.take k2))) ∧ Aft w5 wr)
          case atStart => exact ⟨0, by omega, rfl, by simpa [insL] using HA8.out, hAd⟩
          case round =>
            obtain ⟨k2, hk2, rfl, hown, hA⟩ := hrel
            have HK2 := hid hk2
            have HOWN := hid hown
            obtain ⟨ua2, uc2, rfl⟩ := own_slice hown
            clear hk2 hown HA8 hAd
            by_cases hkt : k2 < xs.length
            · have HKT := hid hkt
              obtain ⟨x, hx⟩ := some_at hkt
              obtain ⟨gi, ioff, aa, ac, fa2, fc2, rfl, i0, _, _, _, _, i5, i6, ja, jf⟩ := ins_later HINS.out hx
              have u0 : ∀ w', Aft w5 w' → w'.cell? ⟨gi, ioff + k2 * 7, none⟩ = some (.int .u8 x.op) := fun w' h => i0 w' (H5.out.trans h)
              have u5 : ∀ w', Aft w5 w' → w'.cell? ⟨gi, ioff + k2 * 7 + 5, none⟩ = some (.slice aa x.args.length ac) := fun w' h => i5 w' (H5.out.trans h)
              have u6 : ∀ w', Aft w5 w' → w'.cell? ⟨gi, ioff + k2 * 7 + 6, none⟩ = some (.slice fa2 x.frm.length fc2) := fun w' h => i6 w' (H5.out.trans h)
              have HJA := hid (fun w' (h : Aft w5 w') => ja w' (H5.out.trans h))
              have HJF := hid (fun w' (h : Aft w5 w') => jf w' (H5.out.trans h))
              have HIS := hid (insL_succ (b := j) hx)
              have HX := hid (HXF.out.2 x (List.mem_of_getElem? hx))
              have hk2l : (k2 : Int) < (xs.length : Int) := by omega
              have hk2b : k2 ≤ 9223372036854775806 := by have := HXF.out.1; omega
              have HBL2 := hid (HXL.out k2)
              have HPY := hid (fun m u (h22 : x.op = 22) h1 h2 => prL_yes (b := j) (m := m) (x := x) (u := u) h22 h1 h2)
              have HPN := hid (fun m c u h1 h2 h3 => prL_no (b := j) (m := m) (x := x) (c := c) (u := u) h1 h2 h3)
              have HPZ := hid (prL_zero j x)
              have HPL := hid (fun m => prL_len j m x)
              clear hx i0 i5 i6 ja jf
              obtain ⟨xop, xty, xa1, xb1, xn1, xar, xfr⟩ := x
              simp only at *
              obtain ⟨Bq, hBq⟩ : ∃ Bq, Bq = A ++ insL j (xs.take k2) := ⟨_, rfl⟩
              have HBE := hid hBq
              have HBQ : Hid (Bq.length ≤ 90000) := by
                show _ ≤ _
                rw [hBq, List.length_append]
                have := HAL2.out; have := HBL2.out
                omega
              rw [← hBq] at HOWN
              rw [← hBq]
              clear hBq
              obtain ⟨g2, hg2⟩ : ∃ g2 : Nat, g2 = gk := ⟨gk, rfl⟩
              subst hg2
              go_wp2_with fail
              go_loopg [14, 20] xfr.length (fun gk u mv wr => ∃ m : Nat, m + gk = xfr.length ∧ mv = .int .i64 m ∧ wr.ownsRow w5.heap.size 3 1 u (Bq ++ prL j m ⟨xop, xty, xa1, xb1, xn1, xar, xfr⟩).length (intVals (Bq ++ prL j m ⟨xop, xty, xa1, xb1, xn1, xar, xfr⟩)) ∧ Aft w5 wr)
              case atStart => exact ⟨0, by omega, rfl, by rw [HPZ.out, List.append_nil]; exact HOWN.out, hA⟩
              case round =>
                obtain ⟨m, hm, rfl, hown, hA3⟩ := hrel
                have HM := hid hm
                have HPL1 := hid (HPL.out m)
                obtain ⟨C, hC⟩ : ∃ C, C = Bq ++ prL j m ⟨xop, xty, xa1, xb1, xn1, xar, xfr⟩ := ⟨_, rfl⟩
                have HCE := hid hC
                have HCL3 : Hid (C.length ≤ 100000) := by
                  show _ ≤ _
                  rw [hC, List.length_append]
                  have := HBQ.out; have := HPL1.out; have := HX.out.1
                  omega
                rw [← hC] at hown
                have HOWN3 := hid hown
                obtain ⟨ua3, uc3, rfl⟩ := own_slice hown
                clear hm hown HOWN hA hC HPL1
                by_cases hmt : m < xfr.length
                · have HMT := hid hmt
                  have h22 : xop = 22 := by
                    refine Classical.byContradiction fun e => ?_
                    have := HX.out.2.2.2 e
                    rw [this] at hmt
                    exact absurd hmt (by simp)
                  have hal := HX.out.2.2.1 h22
                  have hma : m < xar.length := by omega
                  obtain ⟨cf, hcf⟩ := some_at hmt
                  obtain ⟨ca, hca⟩ := some_at hma
                  obtain ⟨bf, of, rfl, cf0⟩ := int_at (HJF.out wr hA3) hcf
                  obtain ⟨ba, oa, rfl, ca0⟩ := int_at (HJA.out wr hA3) hca
                  have HPN1 := hid (HPN.out m cf ca hcf hca)
                  have HPY1 := hid (fun (e : cf = (j : Int)) => HPY.out m ca h22 (e ▸ hcf) hca)
                  have e22 : (xop == 22) = true := by simpa using h22
                  have hmb : m ≤ 9223372036854775806 := by have := HX.out.1; omega
                  have hml : (m : Int) < (xfr.length : Int) := by omega
                  have hml2 : (m : Int) < (xar.length : Int) := by omega
                  clear hcf hca h22 hal HPY HPN
                  by_cases hcj : cf = (j : Int)
                  · have HP3 := hid (HPY1.out hcj)
                    have ecj : (cf == (j : Int)) = true := by simpa using hcj
                    clear hcj HPY1 HPN1
                    have HO4 := hid (HOWN3.out.alloc (.cells #[.int .i64 ca] 3))
                    have HI4 := hid (ints_one (w := wr.alloc (.cells #[.int .i64 ca] 3)) (b := wr.heap.size) (n := ca) (cell_new _ _ _ _ rfl) (size_new _ _ _ rfl))
                    have hA4 := hA3.alloc (.cells #[.int .i64 ca] 3)
                    have hsz4 : w5.heap.size ≤ (wr.alloc (.cells #[.int .i64 ca] 3)).heap.size := hA4.size
                    have hn4 := HCL3.out
                    go_wp2_with (at_builtin; refine wpList_append_ints rfl (.tmp 142) (.tmp 151) rfl w5.heap.size (.slice ua3 C.length uc3) rfl C.length (intVals C) HO4.out hn4 (.slice (some ⟨wr.heap.size, 0, none⟩) 1 1) [ca] rfl HI4.out (by simp) hsz4 ?_)
                    intro v9 w9 hown9 hgr9
                    have HA9 : Hid (Aft w5 w9) := by
                      show Aft w5 w9
                      exact hA4.below.grown hgr9 hsz4 fun q hq => (HO4.out.lt q hq).1
                    have HO9 : Hid (w9.ownsRow w5.heap.size 3 1 v9 (Bq ++ prL j (m + 1) ⟨xop, xty, xa1, xb1, xn1, xar, xfr⟩).length (intVals (Bq ++ prL j (m + 1) ⟨xop, xty, xa1, xb1, xn1, xar, xfr⟩))) := by
                      show World.ownsRow _ _ _ _ _ _ _
                      rw [HP3.out, ← List.append_assoc, ← HCE.out, intVals_append, List.length_append]
                      exact hown9
                    obtain ⟨xa9, xc9, rfl⟩ := own_slice hown9
                    clear hown9 hgr9 HO4 HI4 hsz4 hn4 hA4
                    go_wp2
                    go_roundg (gk - 1)
                    case measure => have := HM.out; have := HMT.out; omega
                    case rel => exact ⟨m + 1, by have := HM.out; have := HMT.out; omega, by go_num, HO9.out, HA9.out⟩
                  · have HP3 := hid (HPN1.out hcj)
                    have ecj : (cf == (j : Int)) = false := by simpa using hcj
                    clear hcj HPY1 HPN1
                    have HA9 := hid hA3
                    go_wp2
                    go_roundg (gk - 1)
                    case measure => have := HM.out; have := HMT.out; omega
                    case rel => exact ⟨m + 1, by have := HM.out; have := HMT.out; omega, by go_num, by rw [HP3.out, ← HCE.out]; exact HOWN3.out, HA9.out⟩
                · obtain rfl : m = xfr.length := by have := HM.out; omega
                  have HO9 : Hid (wr.ownsRow w5.heap.size 3 1 (.slice ua3 C.length uc3) (A ++ insL j (xs.take (k2 + 1))).length (intVals (A ++ insL j (xs.take (k2 + 1))))) := by
                    show World.ownsRow _ _ _ _ _ _ _
                    have e : A ++ insL j (xs.take (k2 + 1)) = C := by rw [HIS.out, ← List.append_assoc, ← HBE.out, HCE.out]
                    rw [e]
                    exact HOWN3.out
                  have HA9 := hid hA3
                  clear hmt HOWN3
                  go_wp2
                  go_roundg (g2 - 1)
                  case measure => have := HK2.out; have := HKT.out; omega
                  case rel => exact ⟨k2 + 1, by have := HK2.out; have := HKT.out; omega, by go_num, HO9.out, HA9.out⟩
            · obtain rfl : k2 = xs.length := by have := HK2.out; omega
              have HO9 : Hid (wr.ownsRow w5.heap.size 3 1 (.slice ua2 (A ++ insL j (xs.take xs.length)).length uc2) (goL par N bl j (tl.take (i + 1))).length (intVals (goL par N bl j (tl.take (i + 1))))) := by
                show World.ownsRow _ _ _ _ _ _ _
                have e : goL par N bl j (tl.take (i + 1)) = A ++ insL j (xs.take xs.length) := by rw [HGS1.out, List.take_length]
                rw [e]
                exact HOWN.out
              have HA9 := hid hA
              clear hkt HOWN
              go_wp2
              go_roundg (g1 - 1)
              case measure => have := HI.out; have := HIT.out; omega
              case rel => exact ⟨i + 1, by have := HI.out; have := HIT.out; omega, by go_num, HO9.out, HA9.out⟩
    · obtain rfl : i = tl.length := by have := HI.out; omega
      have HUW := hid (HU.out.below hA.below)
      have HOW := hid (intsAt_of_owns HOWN.out (by have := HGN.out; omega))
      have HFIN := hid ((H5.out.trans hA).out HBW.out)
      obtain ⟨wl, hwl⟩ : ∃ wl : World, wl = wr := ⟨wr, rfl⟩
      subst hwl
      clear hit HOWN hA HGS HLV HAT HGL HU HV r0 r1 e1 HI
      generalize goL par N bl j (tl.take tl.length) = G at *
      go_wp2_with fail
      go_loopg [21] N (fun gk iv wr => ∃ r : Nat, r + gk = N ∧ iv = .int .i64 r ∧ wl = wr)
      case atStart => exact ⟨0, by omega, rfl, rfl⟩
      case round =>
        obtain ⟨r, hr, rfl, rfl⟩ := hrel
        have HRK := hid hr
        clear hr
        by_cases hlt : r < N
        · have HLT := hid hlt
          have CA1 := hid (among_same _ _ (r : Int) wl HUW.out)
          have CA2 := hid (among_same _ _ (r : Int) wl HOW.out)
          have hq := HGO.out r hlt
          have hrl : (r : Int) < (N : Int) := by omega
          have hrb : r ≤ 9223372036854775806 := by have := HN2.out; omega
          rw [← hq] at CA2
          clear hq
          generalize decide ((r : Int) ∈ ints now) = v1 at *
          go_wp2_with fail
          refine CA1.out.mono ?_
          rintro e ww ⟨rfl, rfl⟩
          go_wp2_with fail
          refine CA2.out.mono ?_
          rintro e ww ⟨rfl, rfl⟩
          clear CA1 CA2
          have hne : (v1 != v1) = false := by simp
          go_wp2
          go_roundg (gk - 1)
          case measure => have := HRK.out; have := HLT.out; omega
          case rel => exact ⟨r + 1, by have := HRK.out; have := HLT.out; omega, by go_num, rfl⟩
        · obtain rfl : N = r := by have := HRK.out; omega
          clear hlt HRK
          go_wp2
          go_ret
          exact ⟨rfl, HFIN.out⟩
end Go.Proofs.YtkcocgdgmlmflaaDoor.LgE
namespace Go.Proofs.YtkcocgdgmlmflaaDoor.LgS
open Go.RowKit Go.Lib RwO SetP IntO TyM TyP TyB TyC TyRE ShM ShP ShA ShB ShC ShE ShI ShJ ShR ShOpen Aft LwT FwM FwC FwP FwQ FwR FwK FvA FvB FdQ LvM LvQ LgK LuM LgC LgN ShH ShJ ShK ShL ShU ShW

set_option maxRecDepth 100000 in
set_option maxHeartbeats 16000000 in
theorem walk_of (CA : AtC) (CE : EndC) (W : World) (v : Value) (p : Px) (S : PrAt W v p) (_ : ∀ y ∈ p.types, TyOk y) (z : ∀ y ∈ p.funcs, FxOk y) (ln : Lens p) (f : Int) (fw : (Lit.int .i64 f).wf = true) (b : Int) (bw : (Lit.int .i64 b).wf = true) (pl : Int) (plw : (Lit.int .i64 pl).wf = true) (ht : Tab W) :
    Calls Tryd.prog 4 #[v, .int .i64 f, .int .i64 b, .int .i64 pl] W fun e W' => e = .returned (.bool true) ∧ Below W.heap.size W W' := by
  have v64f : I64 f := i64_wf fw
  have v64b : I64 b := i64_wf bw
  have v64pl : I64 pl := i64_wf plw
  have hok : POk p := fun f hf b hb => ⟨(z f hf b hb).1, fun y hy => ((z f hf b hb).2 y hy).1⟩
  have HOK := hid hok
  have hp0 := S
  obtain ⟨vt, vf, rfl, hvt, hvf⟩ := S
  obtain ⟨W0, hW0⟩ : ∃ W0, W0 = W.alloc (.cells #[vt, vf] 29) := ⟨_, rfl⟩
  have hbW : Below W.heap.size W W0 := by rw [hW0]; exact alloc_below _ _
  have k1 : W0.heap[W.heap.size]? = some (.cells #[vt, vf] 29 (0, 0)) := by rw [hW0]; exact alloc_new _ _
  have HP := hid (hp0.below hbW)
  have HT := hid (ht.on hbW)
  have HAL := hid (alive_of CA CE W0 HT.out)
  have HG := hid (fun wx (h : Aft W0 wx) => ShR.great_calls p _ 200 wx (HP.out.below h.below) ln (by decide) (by decide))
  obtain ⟨ta, tc, rfl⟩ := hvt.slice
  obtain ⟨fa, fc, rfl, _⟩ := hvf.slice
  have l0 : ∀ w', Aft W0 w' → w'.cell? ⟨W.heap.size, 0, none⟩ = some (.slice ta p.types.length tc) := later_cells k1 0 _ rfl
  have l1 : ∀ w', Aft W0 w' → w'.cell? ⟨W.heap.size, 1, none⟩ = some (.slice fa p.funcs.length fc) := later_cells k1 1 _ rfl
  have HBW := hid hbW
  have HW := hid hW0
  have h0 := Aft.refl W0
  have HIf := hid v64f
  have HIb := hid v64b
  have HIpl := hid v64pl
  clear hvt hvf hp0 hbW hW0 k1 z ln ht hok v64f fw v64b bw v64pl plw
  generalize p.types.length = n1 at *
  generalize p.funcs.length = n2 at *
  go_enter Tryd.func4, Tryd.ntmps4
  go_wp2_with fail
  rw [← HW.out]
  refine HAL.out.mono ?_
  rintro e w1 ⟨rfl, hb1⟩
  have h1 := h0.go hb1
  have HG1 := hid (HG.out w1 h1)
  clear HAL hb1 HG
  go_wp2_with fail
  refine HG1.out.mono ?_
  rintro e w2 ⟨gb, rfl, hsmall, hb2⟩
  have h2 := h1.go hb2
  clear HG1 hb2
  cases gb with
  | true =>
    clear hsmall
    go_wp2
    go_ret
    exact ⟨rfl, h2.out HBW.out⟩
  | false =>
  have HS := hid (hsmall rfl)
  clear hsmall h1 h0
  by_cases p0 : pl < 0
  · go_wp2
    all_goals first | (exfalso; omega) | (go_ret; exact ⟨rfl, h2.out HBW.out⟩)
  by_cases p1 : 1000 < pl
  · go_wp2
    all_goals first | (exfalso; omega) | (go_ret; exact ⟨rfl, h2.out HBW.out⟩)
  have HC := hid (CA p f b pl _ w2 (HP.out.below h2.below) (HT.out.on h2.below) HS.out HOK.out HIf.out HIb.out HIpl.out)
  go_wp2_with fail
  all_goals (try (exfalso; omega))
  refine HC.out.mono ?_
  rintro e w3 ⟨u, rfl, hu, hb3⟩
  have h3 := h2.go hb3
  have HU := hid hu
  obtain ⟨qa, qc, rfl, _⟩ := ints_slice hu
  have HR := hid (regsP_calls p f _ w3 (HP.out.below h3.below) (HT.out.on h3.below) HS.out HOK.out)
  clear HC hb3 hu h2
  go_wp2_with fail
  refine HR.out.mono ?_
  rintro e w4 ⟨rfl, hb4⟩
  have h4 := h3.go hb4
  have HU := hid (HU.out.below hb4)
  clear HR hb4 h3
  by_cases hz : atE p f b pl = 0
  rotate_left
  · have HA : Hid (liveA p f b pl = []) := by show _ = _; unfold liveA; rw [if_neg hz]
    have e0 : (atE p f b pl != 0) = true := by simpa using hz
    rw [HA.out]
    clear HU HA hz
    generalize atE p f b pl = ae at *
    generalize findP p f = fe at *
    go_wp2
    all_goals (go_ret; exact ⟨rfl, h4.out HBW.out⟩)
  obtain ⟨hz0, p2, p3⟩ := atE_zero hz
  obtain ⟨hz1, b0, b1⟩ := ask_zero hz0
  obtain ⟨j, hj⟩ : ∃ j : Nat, b = j := ⟨b.toNat, by omega⟩
  subst hj
  obtain ⟨a, ha⟩ : ∃ a : Nat, pl = a := ⟨pl.toNat, by omega⟩
  subst ha
  obtain ⟨k, x, hx⟩ := has1 hz1
  obtain ⟨hlow, _, _⟩ := low_fn HOK.out hz1
  rw [hz, hz1, if_pos rfl]
  obtain ⟨vt0, vf0, he0, ht0, hf0⟩ := HP.out
  cases he0
  obtain ⟨fb, foff, fcap, ao, bc, he, d0, d1, hbl⟩ := fn_later hf0 hx
  cases he
  have hbls := fn_blocks hx
  rw [hbls] at b1 p3 hlow
  have hjl : j < x.blocks.length := by omega
  rw [insN_at hjl] at p3
  obtain ⟨N, hN⟩ : ∃ N, N = parOf p.types x.sig + manyB x.blocks := ⟨_, rfl⟩
  have hcnt : cntP p f = N := by rw [cnt_at hx, hN]
  have hN2 : N ≤ 100000 := by
    have := par_le HS.out.parts hx.sig0 hx.sig1
    have := hx.many
    omega
  have hpar : parP p f = parOf p.types x.sig := by
    unfold parP ShK.fnP
    rw [hx.eq, Int.toNat_natCast, hx.at_]
    rfl
  have hlv : ∀ m : Nat, m ≤ x.blocks[j].ins.length → atE p f (j : Int) (m : Int) = 0 ∧ liveA p f (j : Int) (m : Int) = ints (livesL (parOf p.types x.sig) N x.blocks j m) := by
    intro m hm
    have h0 : atE p f (j : Int) (m : Int) = 0 := by
      unfold atE
      rw [if_neg (fun e => e hz0), hbls, insN_at hjl, if_neg (by omega)]
    refine ⟨h0, ?_⟩
    unfold liveA
    rw [if_pos h0, hcnt, hpar, hbls, Int.toNat_natCast, Int.toNat_natCast]
  have hle : lendA p f (j : Int) = ints (endsL (parOf p.types x.sig) N x.blocks j) := by
    unfold lendA
    rw [if_pos hz0, hcnt, hpar, hbls, Int.toNat_natCast]
  have hnow := (hlv a (by omega)).2
  rw [hnow, ints_length] at HU ⊢
  rw [hcnt]
  have hokb := HOK.out x (List.mem_of_getElem? hx.at_) _ (List.getElem_mem hjl)
  have hbm : x.blocks[j] ∈ x.blocks := List.getElem_mem hjl
  have hR := regs_of (find_zero hz1).1 HOK.out (List.mem_of_getElem? hx.at_)
  have hsg : (ShK.fnP p f).sig = x.sig ∧ (ShK.fnP p f).blocks = x.blocks := by
    unfold ShK.fnP
    rw [hx.eq, Int.toNat_natCast, hx.at_]
    exact ⟨rfl, rfl⟩
  obtain ⟨gb, goff, rfl, hgl, vi, c0, c1, c2, c3, c4, hins⟩ := hbl.at j hjl
  have q0 := later c0; have q1 := later c1; have q2 := later c2; have q3 := later c3; have q4 := later c4
  obtain ⟨ia, ic, rfl, hil⟩ := hins.slice
  have hke := hx.eq
  have hkl := hx.lt
  have hbl1 : (j : Int) < (x.blocks.length : Int) := by omega
  have hEN : endAt x.blocks j = x.blocks[j].en := by unfold endAt; rw [List.getElem?_eq_getElem hjl]; rfl
  have hIN : insAt x.blocks j = x.blocks[j].ins := by unfold insAt; rw [List.getElem?_eq_getElem hjl]; rfl
  obtain ⟨W5, hW5⟩ : ∃ W5, W5 = w4.alloc (.cells #[.slice ia x.blocks[j].ins.length ic, .int .u8 x.blocks[j].en.kind, .int .i64 x.blocks[j].en.a, .int .i64 x.blocks[j].en.to, .int .i64 x.blocks[j].en.els] 41) := ⟨_, rfl⟩
  have k5 : W5.heap[w4.heap.size]? = some (.cells #[.slice ia x.blocks[j].ins.length ic, .int .u8 x.blocks[j].en.kind, .int .i64 x.blocks[j].en.a, .int .i64 x.blocks[j].en.to, .int .i64 x.blocks[j].en.els] 41 (0, 0)) := by rw [hW5]; exact TyD.alloc_new _ _
  have m0 := later_cells k5 0 _ rfl; have m1 := later_cells k5 1 _ rfl; have m2 := later_cells k5 2 _ rfl; have m3 := later_cells k5 3 _ rfl; have m4 := later_cells k5 4 _ rfl
  have hb5 : Below w4.heap.size w4 W5 := by rw [hW5]; exact alloc_below _ _
  have h5 := h4.go hb5
  have HU := hid (HU.out.below hb5)
  have HW5 := hid hW5
  have h50 := Aft.refl W5
  have hb6 := alloc_below W5 (.cells #[] 3)
  have h6 := h50.go hb6
  have HE := hid (ends_calls (x.blocks[j]).en (W5.alloc (.cells #[] 3)) hokb.1.1 hokb.1.2 (HT.out.on (h5.trans h6).below))
  have HI6 : Hid (IntsAt (W5.alloc (.cells #[] 3)) (.slice (some ⟨W5.heap.size, 0, none⟩) 0 0) []) := ints_lit W5 [] 0 #[] rfl rfl (by simp)
  have hz5 : W5.heap.size = w4.heap.size + 1 := by rw [hW5]; simp
  rw [hz5] at HI6
  have HU := hid (HU.out.below hb6)
  have HSI := hid (fun r (hr : r < N) y (hy : (insAt x.blocks j)[a]? = some y) => LgC.step_ins (par := parOf p.types x.sig) (N := N) hlow hjl hy hr)
  have HSE := hid (fun r (hr : r < N) (hy : a = (insAt x.blocks j).length) => LgC.step_end (par := parOf p.types x.sig) (N := N) hlow hjl hy hr)
  rw [hIN] at HSI HSE
  rw [hEN] at HSE
  have HLV := hid hlv
  have HLE := hid hle
  have HRG : Hid (a < x.blocks[j].ins.length → regE p f (j : Int) (a : Int) = 0 ∧ regN p f (j : Int) (a : Int) = ((ownN (parOf p.types x.sig) x.blocks j a : Nat) : Int)) := by
    intro hal
    have hre : regE p f (j : Int) (a : Int) = 0 := by
      unfold regE
      rw [if_neg (fun e => e hz1), hsg.2, insN_at hjl, if_pos (by omega)]
    refine ⟨hre, ?_⟩
    unfold regN
    rw [if_neg (fun e => e hre), hsg.1, hsg.2, Int.toNat_natCast]
    unfold ownN
    omega
  have HINS := hid hins
  have HOKI := hid hokb.2
  have HFEW := hid (fun y hy => hR.few _ hbm y hy)
  have hlen : x.blocks[j].ins.length ≤ 128 := by have := fewer hbm; have := hx.many; omega
  have HZ0 := hid hz0
  have HP3 : Hid (a ≤ x.blocks[j].ins.length) := by show _ ≤ _; omega
  clear hnow hlv hle hpar hcnt hbls hsg hIN hEN hlow hokb hR hbm hbl ht0 hf0 hins hz hz0 hz1 p2 p3 b0 b1 c0 c1 c2 c3 c4 hx hW5 k5 hb5 hb6 hz5 hN
  go_wp2_with fail
  rw [← HW5.out]
  refine HE.out.mono ?_
  rintro e w7 ⟨u2, mm, rfl, hu2, hb7⟩
  obtain rfl : mm = (endsOf x.blocks[j].en).length := by have := hu2.1; rw [intVals_length] at this; omega
  have hel : (endsOf x.blocks[j].en).length ≤ 1 := by unfold endsOf; split <;> simp
  have HUr := hid (intsAt_of_owns hu2 (by omega))
  obtain ⟨ra, rc, rfl⟩ := own_slice hu2
  have h7 := h6.go hb7
  have HU := hid (HU.out.below hb7)
  have HI7 := hid (HI6.out.below hb7)
  clear HE hu2 hb7 h6 HI6 hel
  obtain ⟨now, hnow⟩ : ∃ now, now = livesL (parOf p.types x.sig) N x.blocks j a := ⟨_, rfl⟩
  rw [← hnow] at HSI HSE HU
  rw [← hnow]
  have HPX := hid HP.out
  clear hnow
  have a7 := h5.trans h7
  have HKF : Hid (I64 (k : Int)) := by show I64 _; rw [← hke]; exact HIf.out
  rw [hke] at HLV HLE HRG
  by_cases hal : a < x.blocks[j].ins.length
  · obtain ⟨hre, hrn⟩ := HRG.out hal
    obtain ⟨hat, hli⟩ := HLV.out (a + 1) (by omega)
    have HA1 := hid (CA p (k : Int) (j : Int) ((a + 1 : Nat) : Int) _ w7 (HP.out.below a7.below) (HT.out.on a7.below) HS.out HOK.out HKF.out HIb.out ⟨by omega, by omega⟩)
    rw [hat, hli] at HA1
    have hw1 : IntKind.i64.wrap ((a : Int) + 1) = ((a + 1 : Nat) : Int) := by rw [IntWalk.i64_in _ (by omega)]; omega
    have hal1 : (a : Int) < (x.blocks[j].ins.length : Int) := by omega
    obtain ⟨gi, ioff, rfl, _, ya, yf, z0, z1, z2, z3, z4, z5, z6, hya, hyf⟩ := HINS.out.at a hal
    have i0 := later z0; have i1 := later z1; have i2 := later z2; have i3 := later z3; have i4 := later z4; have i5 := later z5; have i6 := later z6
    have hio := HOKI.out _ (List.getElem_mem hal)
    have hfew := HFEW.out _ (List.getElem_mem hal)
    have HQ := hid (fun r (hr : r < N) => HSI.out r hr _ (List.getElem?_eq_getElem hal))
    have HUC := hid (fun wx (hx : Aft _ wx) => uses_calls (x.blocks[j].ins[a]) ya yf wx hio.1 hio.2 (HT.out.on hx.below) (hya.below hx.below) (by omega) (by obtain ⟨a1, c1, h, _⟩ := ints_slice hyf; exact ⟨_, _, _, h⟩))
    have HRC := hid (fun wx (hx : Aft _ wx) => reg_calls p (k : Int) (j : Int) (a : Int) _ wx (HP.out.below hx.below) (HT.out.on hx.below) HS.out HOK.out)
    rw [hre, hrn] at HRC
    obtain ⟨yaa, yac, rfl, _⟩ := ints_slice hya
    obtain ⟨yfa, yfc, rfl, _⟩ := ints_slice hyf
    have hul : (usesOf x.blocks[j].ins[a]).length ≤ 20 := by
      unfold usesOf
      simp only [List.length_append]
      split <;> split <;> split <;> simp <;> omega
    have HSEE : Hid (LuM.seen x.blocks[j].ins[a] = if x.blocks[j].ins[a].op = 22 then [] else usesOf x.blocks[j].ins[a]) := rfl
    clear hya hyf z0 z1 z2 z3 z4 z5 z6 hio hfew hat hli hre hrn HLV HLE HRG HSI HSE HI7 HINS HFEW HOKI HUr
    generalize ownN (parOf p.types x.sig) x.blocks j a = own at *
    generalize livesL (parOf p.types x.sig) N x.blocks j (a + 1) = nx at *
    generalize x.blocks[j].ins[a] = y at *
    obtain ⟨yop, yty, yya, yyb, yn, yar, yfr⟩ := y
    simp only at *
    go_wp2_with fail
    refine HA1.out.mono ?_
    rintro e w8 ⟨un0, rfl, hun, hb8⟩
    have h8 := h7.go hb8
    have a8 := a7.go hb8
    have HU := hid (HU.out.below hb8)
    have HUn := hid hun
    obtain ⟨na, nc, rfl, _⟩ := ints_slice hun
    have HUC1 := hid (HUC.out w8 a8)
    clear HA1 hun hb8 HUC h7 a7
    go_wp2_with fail
    refine HUC1.out.mono ?_
    rintro e w9 ⟨u9, m9, rfl, hu9, hb9⟩
    obtain rfl : m9 = (usesOf ⟨yop, yty, yya, yyb, yn, yar, yfr⟩).length := by have := hu9.1; rw [intVals_length] at this; omega
    have h9 := h8.go hb9
    have a9 := a8.go hb9
    have HU := hid (HU.out.below hb9)
    have HUn := hid (HUn.out.below hb9)
    have HUr := hid (intsAt_of_owns hu9 (by omega))
    obtain ⟨ra, rc, rfl⟩ := own_slice hu9
    have HRC1 := hid (HRC.out w9 a9)
    clear HUC1 hu9 hb9 h8 a8 HRC
    by_cases h22 : yop = 22
    · rw [if_pos h22] at HSEE
      have e22 : (yop == 22) = true := by simp [h22]
      clear h22
      go_wp2_with fail
      refine HRC1.out.mono ?_
      rintro e wl ⟨rfl, hb10⟩
      have hAl := h9.go hb10
      have al := a9.go hb10
      have HU := hid (HU.out.below hb10)
      have HUn := hid (HUn.out.below hb10)
      have HUr := hid (ints_none wl)
      have HEQ : Hid (∀ r, r < N → decide ((r : Int) ∈ ints now) = (decide ((r : Int) ∈ ([] : List Int)) || (decide ((r : Int) ∈ ints nx) && decide ((r : Int) ≠ (own : Int))))) := by
        intro r hr
        rw [← HSEE.out]
        exact HQ.out r hr
      clear HRC1 hb10 h9 a9 HQ HSEE
      generalize ([] : List Int) = Lr at HUr HEQ
      generalize (own : Int) = o at *
      generalize ints nx = Ln at *
      have HFIN := hid (al.out HBW.out)
      go_wp2
      go_loopg [18] N (fun gk iv wr => ∃ r : Nat, r + gk = N ∧ iv = .int .i64 r ∧ wl = wr)
      case atStart => exact ⟨0, by omega, rfl, rfl⟩
      case round =>
        obtain ⟨r, hr, rfl, rfl⟩ := hrel
        have HRK := hid hr
        clear hr
        by_cases hlt : r < N
        · have HLT := hid hlt
          have hq := HEQ.out r hlt
          have CA1 := hid (among_same _ _ (r : Int) wl HU.out)
          have CA2 := hid (among_same _ _ (r : Int) wl HUr.out)
          have CA3 := hid (among_same _ _ (r : Int) wl HUn.out)
          have hne : ((r : Int) != o) = decide ((r : Int) ≠ o) := by by_cases h : (r : Int) = o <;> simp [h]
          have hrl : (r : Int) < (N : Int) := by omega
          generalize decide ((r : Int) ∈ Lr) = v2 at *
          generalize decide ((r : Int) ∈ Ln) = v3 at *
          generalize decide ((r : Int) ≠ o) = v4 at *
          generalize decide ((r : Int) ∈ ints now) = v1 at *
          subst hq
          cases v2 with
          | true =>
            rw [Bool.true_or] at CA1
            go_wp2_with fail
            refine CA1.out.mono ?_
            rintro e ww ⟨rfl, rfl⟩
            go_wp2_with fail
            refine CA2.out.mono ?_
            rintro e ww ⟨rfl, rfl⟩
            clear CA1 CA2 CA3
            go_wp2
            go_roundg (gk - 1)
            case measure => have := HRK.out; have := HLT.out; omega
            case rel => exact ⟨r + 1, by have := HRK.out; have := HLT.out; omega, by go_num, rfl⟩
          | false =>
            rw [Bool.false_or] at CA1
            cases v3 <;> cases v4
            all_goals
              simp only [Bool.and_true, Bool.and_false] at CA1
              go_wp2_with fail
              refine CA1.out.mono ?_
              rintro e ww ⟨rfl, rfl⟩
              go_wp2_with fail
              refine CA2.out.mono ?_
              rintro e ww ⟨rfl, rfl⟩
              go_wp2_with fail
              refine CA3.out.mono ?_
              rintro e ww ⟨rfl, rfl⟩
              clear CA1 CA2 CA3
              go_wp2
              go_roundg (gk - 1)
              case measure => have := HRK.out; have := HLT.out; omega
              case rel => exact ⟨r + 1, by have := HRK.out; have := HLT.out; omega, by go_num, rfl⟩
        · obtain rfl : N = r := by have := HRK.out; omega
          clear hlt HRK HEQ HU HUr HUn
          go_wp2
          go_ret
          exact ⟨rfl, HFIN.out⟩
    · rw [if_neg h22] at HSEE
      have e22 : (yop == 22) = false := by simp [h22]
      clear h22
      go_wp2_with fail
      refine HRC1.out.mono ?_
      rintro e wl ⟨rfl, hb10⟩
      have hAl := h9.go hb10
      have al := a9.go hb10
      have HU := hid (HU.out.below hb10)
      have HUn := hid (HUn.out.below hb10)
      have HUr := hid (HUr.out.below hb10)
      have HEQ : Hid (∀ r, r < N → decide ((r : Int) ∈ ints now) = (decide ((r : Int) ∈ usesOf ⟨yop, yty, yya, yyb, yn, yar, yfr⟩) || (decide ((r : Int) ∈ ints nx) && decide ((r : Int) ≠ (own : Int))))) := by
        intro r hr
        rw [← HSEE.out]
        exact HQ.out r hr
      clear HRC1 hb10 h9 a9 HQ HSEE
      generalize usesOf ⟨yop, yty, yya, yyb, yn, yar, yfr⟩ = Lr at *
      generalize (own : Int) = o at *
      generalize ints nx = Ln at *
      have HFIN := hid (al.out HBW.out)
      go_wp2
      go_loopg [18] N (fun gk iv wr => ∃ r : Nat, r + gk = N ∧ iv = .int .i64 r ∧ wl = wr)
      case atStart => exact ⟨0, by omega, rfl, rfl⟩
      case round =>
        obtain ⟨r, hr, rfl, rfl⟩ := hrel
        have HRK := hid hr
        clear hr
        by_cases hlt : r < N
        · have HLT := hid hlt
          have hq := HEQ.out r hlt
          have CA1 := hid (among_same _ _ (r : Int) wl HU.out)
          have CA2 := hid (among_same _ _ (r : Int) wl HUr.out)
          have CA3 := hid (among_same _ _ (r : Int) wl HUn.out)
          have hne : ((r : Int) != o) = decide ((r : Int) ≠ o) := by by_cases h : (r : Int) = o <;> simp [h]
          have hrl : (r : Int) < (N : Int) := by omega
          generalize decide ((r : Int) ∈ Lr) = v2 at *
          generalize decide ((r : Int) ∈ Ln) = v3 at *
          generalize decide ((r : Int) ≠ o) = v4 at *
          generalize decide ((r : Int) ∈ ints now) = v1 at *
          subst hq
          cases v2 with
          | true =>
            rw [Bool.true_or] at CA1
            go_wp2_with fail
            refine CA1.out.mono ?_
            rintro e ww ⟨rfl, rfl⟩
            go_wp2_with fail
            refine CA2.out.mono ?_
            rintro e ww ⟨rfl, rfl⟩
            clear CA1 CA2 CA3
            go_wp2
            go_roundg (gk - 1)
            case measure => have := HRK.out; have := HLT.out; omega
            case rel => exact ⟨r + 1, by have := HRK.out; have := HLT.out; omega, by go_num, rfl⟩
          | false =>
            rw [Bool.false_or] at CA1
            cases v3 <;> cases v4
            all_goals
              simp only [Bool.and_true, Bool.and_false] at CA1
              go_wp2_with fail
              refine CA1.out.mono ?_
              rintro e ww ⟨rfl, rfl⟩
              go_wp2_with fail
              refine CA2.out.mono ?_
              rintro e ww ⟨rfl, rfl⟩
              go_wp2_with fail
              refine CA3.out.mono ?_
              rintro e ww ⟨rfl, rfl⟩
              clear CA1 CA2 CA3
              go_wp2
              go_roundg (gk - 1)
              case measure => have := HRK.out; have := HLT.out; omega
              case rel => exact ⟨r + 1, by have := HRK.out; have := HLT.out; omega, by go_num, rfl⟩
        · obtain rfl : N = r := by have := HRK.out; omega
          clear hlt HRK HEQ HU HUr HUn
          go_wp2
          go_ret
          exact ⟨rfl, HFIN.out⟩
  · have haE : a = x.blocks[j].ins.length := by have := HP3.out; omega
    have HQ := hid (fun r (hr : r < N) => HSE.out r hr haE)
    have HCE := hid (CE p (k : Int) (j : Int) _ w7 (HP.out.below a7.below) (HT.out.on a7.below) HS.out HOK.out HKF.out HIb.out)
    have hz0 := HZ0.out
    rw [hke] at hz0
    rw [HLE.out, hz0] at HCE
    have hna : ¬ (a : Int) < (x.blocks[j].ins.length : Int) := by omega
    clear HLV HLE HRG HSI HSE HI7 HINS HFEW HOKI HZ0 hz0 haE
    generalize endsL (parOf p.types x.sig) N x.blocks j = nx at *
    generalize endsOf x.blocks[j].en = Lr at *
    go_wp2_with fail
    refine HCE.out.mono ?_
    rintro e wl ⟨un0, rfl, hun, hb8⟩
    have hAl := h7.go hb8
    have al := a7.go hb8
    have HU := hid (HU.out.below hb8)
    have HUr := hid (HUr.out.below hb8)
    have HUn := hid hun
    obtain ⟨na, nc, rfl, _⟩ := ints_slice hun
    obtain ⟨o, ho⟩ : ∃ o : Int, o = -1 := ⟨_, rfl⟩
    have HEQ : Hid (∀ r, r < N → decide ((r : Int) ∈ ints now) = (decide ((r : Int) ∈ Lr) || (decide ((r : Int) ∈ ints nx) && decide ((r : Int) ≠ o)))) := by
      intro r hr
      rw [ho]
      exact HQ.out r hr
    rw [← ho]
    clear HCE hun hb8 h7 a7 HQ ho
    generalize ints nx = Ln at *
    have HFIN := hid (al.out HBW.out)
    go_wp2
    go_loopg [18] N (fun gk iv wr => ∃ r : Nat, r + gk = N ∧ iv = .int .i64 r ∧ wl = wr)
    case atStart => exact ⟨0, by omega, rfl, rfl⟩
    case round =>
      obtain ⟨r, hr, rfl, rfl⟩ := hrel
      have HRK := hid hr
      clear hr
      by_cases hlt : r < N
      · have HLT := hid hlt
        have hq := HEQ.out r hlt
        have CA1 := hid (among_same _ _ (r : Int) wl HU.out)
        have CA2 := hid (among_same _ _ (r : Int) wl HUr.out)
        have CA3 := hid (among_same _ _ (r : Int) wl HUn.out)
        have hne : ((r : Int) != o) = decide ((r : Int) ≠ o) := by by_cases h : (r : Int) = o <;> simp [h]
        have hrl : (r : Int) < (N : Int) := by omega
        generalize decide ((r : Int) ∈ Lr) = v2 at *
        generalize decide ((r : Int) ∈ Ln) = v3 at *
        generalize decide ((r : Int) ≠ o) = v4 at *
        generalize decide ((r : Int) ∈ ints now) = v1 at *
        subst hq
        cases v2 with
        | true =>
          rw [Bool.true_or] at CA1
          go_wp2_with fail
          refine CA1.out.mono ?_
          rintro e ww ⟨rfl, rfl⟩
          go_wp2_with fail
          refine CA2.out.mono ?_
          rintro e ww ⟨rfl, rfl⟩
          clear CA1 CA2 CA3
          go_wp2
          go_roundg (gk - 1)
          case measure => have := HRK.out; have := HLT.out; omega
          case rel => exact ⟨r + 1, by have := HRK.out; have := HLT.out; omega, by go_num, rfl⟩
        | false =>
          rw [Bool.false_or] at CA1
          cases v3 <;> cases v4
          all_goals
            simp only [Bool.and_true, Bool.and_false] at CA1
            go_wp2_with fail
            refine CA1.out.mono ?_
            rintro e ww ⟨rfl, rfl⟩
            go_wp2_with fail
            refine CA2.out.mono ?_
            rintro e ww ⟨rfl, rfl⟩
            go_wp2_with fail
            refine CA3.out.mono ?_
            rintro e ww ⟨rfl, rfl⟩
            clear CA1 CA2 CA3
            go_wp2
            go_roundg (gk - 1)
            case measure => have := HRK.out; have := HLT.out; omega
            case rel => exact ⟨r + 1, by have := HRK.out; have := HLT.out; omega, by go_num, rfl⟩
      · obtain rfl : N = r := by have := HRK.out; omega
        clear hlt HRK HEQ HU HUr HUn
        go_wp2
        go_ret
        exact ⟨rfl, HFIN.out⟩
end Go.Proofs.YtkcocgdgmlmflaaDoor.LgS
