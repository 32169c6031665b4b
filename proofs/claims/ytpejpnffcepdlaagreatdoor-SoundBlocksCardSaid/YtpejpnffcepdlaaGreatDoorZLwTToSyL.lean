/- What the walks of laws over a program share. Walk over fescuelaw12.SoundBlocks. Walk over fescuelaw12.SoundKinds. Walk over fescuelaw12.SoundLive. -/
import Derived.Test.YtpejpnffcepdlaaGreatDoorZShIToIntG
import Derived.Test.YtpejpnffcepdlaaGreatDoorZShFToShRV
import Derived.Test.YtpejpnffcepdlaaGreatDoorZShTP
import Derived.Test.YtpejpnffcepdlaaGreatDoorZShBToShW
import Derived.Test.YtpejpnffcepdlaaGreatDoorZShOpen
import Derived.Test.YtpejpnffcepdlaaGreatDoorZTyBToTyTI
import Derived.Test.YtpejpnffcepdlaaGreatDoorZIntOToSwXd
import Derived.Test.YtpejpnffcepdlaaGreatDoorZSvPToSzM
import Derived.Test.YtpejpnffcepdlaaGreatDoorZLvQToSvK
import Derived.Test.YtpejpnffcepdlaaGreatDoorZBlkGToFeP
import Derived.Deep.RegionHeld3
import Derived.Test.YtpejpnffcepdlaaGreatDoorZShAToShAn
import Derived.Test.YtpejpnffcepdlaaGreatDoorZTyEToTyQ
namespace Go.Proofs.YtpejpnffcepdlaaGreatDoor.LwT
open Go.RowKit Go.Lib RwO SetP IntO TyM TyP TyB TyC ShM ShP ShA ShB ShC ShE ShR ShOpen ShRS ShTB ShTP Aft

end Go.Proofs.YtpejpnffcepdlaaGreatDoor.LwT
namespace Go.Proofs.YtpejpnffcepdlaaGreatDoor.SyB
open Go.RowKit Go.Lib RwO SetP IntO TyM TyP TyB TyC ShM ShP ShA ShB ShC ShE ShI ShJ ShR ShOpen Aft LwT ShN LvM LvQ FwM FwP FwQ FwR FwK FdQ LgK ShK FvB BlkG SvQ SvP SvK SyK SyM

set_option maxRecDepth 100000 in
set_option maxHeartbeats 16000000 in
theorem walk_of (CC : CheckC) (CA : AtC) (CP : PredsC) (W : World) (v : Value) (p : Px) (S : PrAt W v p) (_ : ∀ y ∈ p.types, TyOk y) (z : ∀ y ∈ p.funcs, FxOk y) (ln : Lens p) (f : Int) (fw : (Lit.int .i64 f).wf = true) (b : Int) (bw : (Lit.int .i64 b).wf = true) (ht : Tab W) :
  Calls Tryz.prog 7 #[v, .int .i64 f, .int .i64 b] W fun e W' => e = .returned (.bool true) ∧ Below W.heap.size W W' := by
 have v64f : I64 f := i64_wf fw
 have v64b : I64 b := i64_wf bw
 have hok : POk p := fun f hf b hb => ⟨(z f hf b hb).1, fun y hy => ((z f hf b hb).2 y hy).1⟩
 have HOK := hid hok
 have hp0 := S
 obtain ⟨vt, vf, rfl, hvt, hvf⟩ := S
 obtain ⟨W0, hW0⟩ : ∃ W0, W0 = W.alloc (.cells #[vt, vf] 27) := ⟨_, rfl⟩
 have hbW : Below W.heap.size W W0 := by rw [hW0]; exact alloc_below _ _
 have k1 : W0.heap[W.heap.size]? = some (.cells #[vt, vf] 27 (0, 0)) := by rw [hW0]; exact alloc_new _ _
 have HP := hid (hp0.below hbW)
 have HT := hid (ht.on hbW)
 have HAL := hid (SyA.alive_of CC W0 HT.out)
 have HG := hid (fun wx (h : Aft W0 wx) => ShR.great_calls p _ 150 wx (HP.out.below h.below) ln (by decide) (by decide))
 obtain ⟨ta, tc, rfl⟩ := hvt.slice
 obtain ⟨fa, fc, rfl, _⟩ := hvf.slice
 have l0 : ∀ w', Aft W0 w' → w'.cell? ⟨W.heap.size, 0, none⟩ = some (.slice ta p.types.length tc) := later_cells k1 0 _ rfl
 have l1 : ∀ w', Aft W0 w' → w'.cell? ⟨W.heap.size, 1, none⟩ = some (.slice fa p.funcs.length fc) := later_cells k1 1 _ rfl
 have HBW := hid hbW
 have HW := hid hW0
 have h0 := Aft.refl W0
 have HIf := hid v64f
 have HIb := hid v64b
 clear hvt hvf hp0 hbW hW0 k1 z ln ht hok v64f fw v64b bw
 generalize p.types.length = n1 at *
 generalize p.funcs.length = n2 at *
 go_enter Tryz.func7, Tryz.ntmps7
 go_wp2_with fail
 rw [← HW.out]
 refine HAL.out.mono ?_
 rintro e w1 ⟨rfl, hb1⟩
 have h1 := h0.go hb1
 have HG1 := hid (HG.out w1 h1)
 clear HAL hb1 HG
 go_wp2_with fail
 refine HG1.out.mono ?_
 rintro e w2 ⟨gb, rfl, hsmall, hb2⟩
 have h2 := h1.go hb2
 clear HG1 hb2
 cases gb with
 | true =>
  clear hsmall
  go_wp2
  go_ret
  exact ⟨rfl, h2.out HBW.out⟩
 | false =>
 have HS := hid (hsmall rfl)
 clear hsmall h1 h0
 have HC := hid (CC p _ w2 (HP.out.below h2.below) (HT.out.on h2.below) HS.out HOK.out)
 go_wp2_with fail
 refine HC.out.mono ?_
 rintro e w3 ⟨rfl, hb3⟩
 have h3 := h2.go hb3
 clear HC hb3 h2
 by_cases hs : sndE p = 0
 rotate_left
 ·have e0 : (sndE p != 0) = true := by simpa using hs
  have HE := hid (h3.out HBW.out)
  clear hs HS HOK HP HT HIf HIb
  generalize sndE p = sn at *
  go_wp2
  go_ret
  exact ⟨rfl, HE.out⟩
 rw [hs]
 have HA := hid (CP p f b _ w3 (HP.out.below h3.below) (HT.out.on h3.below) HS.out HOK.out HIf.out HIb.out)
 go_wp2_with fail
 refine HA.out.mono ?_
 rintro e w4 ⟨u, rfl, hu2, hb4⟩
 have hu := hu2.1
 have h4 := h3.go hb4
 clear HA hb4 h3 hu2
 by_cases he : askB p f b = 0
 rotate_left
 ·have e0 : (askB p f b != 0) = true := by simpa using he
  have hpe : predsA p f b = [] := by unfold predsA; rw [if_neg he]
  rw [hpe] at hu
  obtain ⟨q1, c1, rfl, _⟩ := ints_slice hu
  have HE := hid (h4.out HBW.out)
  clear he hu hs hpe HS HOK HP HT HIf HIb
  generalize askB p f b = ae at *
  go_wp2
  go_ret
  exact ⟨rfl, HE.out⟩
 rw [he]
 obtain ⟨k, x, j, hx, rfl, hjl, hbls, hmem⟩ := ask_has he
 have hpa : predsA p f (j : Int) = ints (aheadL x.blocks j) := by unfold predsA; rw [if_pos he, hbls, Int.toNat_natCast]
 rw [hpa] at hu
 have H0 : Hid (((j : Int) == 0) = (((aheadL x.blocks j).length : Int) == 0)) := by
  show _ = _
  by_cases h0 : j = 0
  ·subst h0
   rw [none_first hs HOK.out hmem]
   rfl
  ·have := some_ahead hs HOK.out hmem hjl h0
   have h5 : (aheadL x.blocks j).length ≠ 0 := fun e => this (List.eq_nil_of_length_eq_zero e)
   rw [beq_false_of_ne (show ((j : Nat) : Int) ≠ 0 by omega), beq_false_of_ne (show (((aheadL x.blocks j).length : Nat) : Int) ≠ 0 by omega)]
 have HPH := hid (fun (k : Nat) (y : Ix) (hy : (insAt x.blocks j)[k]? = some y) (hop : y.op = 22) => phi_of hs HOK.out hmem hjl hy hop)
 obtain ⟨hfl, hfe⟩ := first_none hs HOK.out
 have HA2 := hid (fun wx (h : Aft W0 wx) => CA p 0 0 0 _ wx (HP.out.below h.below) (HT.out.on h.below) HS.out HOK.out ⟨by decide, by decide⟩ ⟨by decide, by decide⟩ ⟨by decide, by decide⟩)
 rw [hfl, hfe] at HA2
 obtain ⟨vt0, vf0, he0, ht0, hf0⟩ := HP.out
 cases he0
 have hk1 := hx.eq
 have hk2 := hx.lt
 obtain ⟨fb, foff, fcap, ao, bc, he1, d0, d1, hbl⟩ := fn_later hf0 hx
 cases he1
 obtain ⟨gb, goff, xa, xc, rfl, z0, hins, _, _, _, _⟩ := blk_ins hbl hjl
 have HINS := hid hins
 have hsum : (insAt x.blocks j).length ≤ 128 := by
  have h1 := hx.many
  have h2 := manyB_mem hjl
  have h4 : insAt x.blocks j = x.blocks[j].ins := by unfold insAt; rw [List.getElem?_eq_getElem hjl]; rfl
  rw [h4]
  omega
 have r0 : ∀ w', Aft w4 w' → w'.cell? ⟨W.heap.size, 0, none⟩ = some (.slice ta n1 tc) := fun w' h => l0 w' (h4.trans h)
 have r1 : ∀ w', Aft w4 w' → w'.cell? ⟨W.heap.size, 1, none⟩ = some (.slice (some ⟨fb, foff, none⟩) p.funcs.length fc) := fun w' h => l1 w' (h4.trans h)
 have r2 : ∀ w', Aft w4 w' → w'.cell? ⟨fb, foff + k * 2 + 1, none⟩ = some (.slice (some ⟨gb, goff, none⟩) x.blocks.length bc) := fun w' h => d1 w' (h4.trans h)
 have r3 : ∀ w', Aft w4 w' → w'.cell? ⟨gb, goff + j * 5, none⟩ = some (.slice xa (insAt x.blocks j).length xc) := fun w' h => z0 w' (h4.trans h)
 have g0 := Aft.refl w4
 subst hk1
 have hfl2 : (k : Int) < (p.funcs.length : Int) := by omega
 have hcl2 : (j : Int) < (x.blocks.length : Int) := by omega
 obtain ⟨ua, uc, rfl, hul⟩ := ints_slice hu
 rw [ints_length] at *
 have H4 := hid h4
 have HXL := hid hsum
 clear hu he hs hpa hfl hfe hbls hmem hx ht0 hf0 d0 d1 z0 hbl hins hsum hul hk2 l0 l1 HS HOK HP HT HIf HIb h4 hjl
 generalize p.funcs.length = n2 at *
 generalize (aheadL x.blocks j).length = al at *
 generalize insAt x.blocks j = xs at *
 generalize x.blocks.length = bl at *
 have h0 : (!(((j : Int) == 0) == ((al : Int) == 0))) = false := by rw [H0.out]; simp
 clear H0
 go_wp2_with fail
 go_loopg [11] xs.length (fun gk iv wr => ∃ i : Nat, i + gk = xs.length ∧ iv = .int .i64 i ∧ Aft w4 wr)
 case atStart => exact ⟨0, by omega, rfl, Aft.refl _⟩
 case round =>
  obtain ⟨i, hi, rfl, hbe⟩ := hrel
  have HI := hid hi
  have hA : Aft W0 wr := H4.out.trans hbe
  by_cases hlt : i < xs.length
  ·have HLT := hid hlt
   have HBE := hid hbe
   obtain ⟨y, hy⟩ : ∃ y, xs[i]? = some y := ⟨_, List.getElem?_eq_getElem hlt⟩
   obtain ⟨ib, ioff, aa, ac, fa2, fc2, rfl, y0, _, _, _, _, y5, _, _, _⟩ := ins_later HINS.out hy
   have c0 := y0 wr hA
   have c5 := y5 wr hA
   have hil : (i : Int) < (xs.length : Int) := by omega
   have hib : i ≤ 128 := by have := HXL.out; omega
   have HPY := hid (HPH.out i y hy)
   by_cases hop : y.op = 22
   ·obtain ⟨hal, hpr⟩ := HPY.out hop
    rw [hop] at c0
    rw [hal] at c5
    have d0 : ((al : Int) != (al : Int)) = false := by simp
    by_cases hi0 : i = 0
    ·have e1 : ¬ (0 : Int) < (i : Int) := by omega
     clear hi hbe hA y0 y5 hy HPY hop hal hpr hlt hi0
     go_wp2
     go_roundg (gk - 1)
     case measure => have := HI.out; have := HLT.out; omega
     case rel => exact ⟨i + 1, by have := HI.out; have := HLT.out; omega, by go_num, HBE.out⟩
    ·obtain ⟨m, rfl⟩ : ∃ m, i = m + 1 := ⟨i - 1, by omega⟩
     obtain ⟨z, hz⟩ : ∃ z, xs[m]? = some z := ⟨_, List.getElem?_eq_getElem (show m < xs.length by omega)⟩
     obtain ⟨_, _, _, _, _, _, he, z0, _, _, _, _, _, _, _, _⟩ := ins_later HINS.out hz
     cases he
     have e0 := z0 wr hA
     rw [hpr z (by omega) hz] at e0
     have hml : (m : Int) < (xs.length : Int) := by omega
     clear hi hbe hA y0 y5 hy HPY hop hal hpr hlt z0 hz
     go_wp2
     go_roundg (gk - 1)
     case measure => have := HI.out; have := HLT.out; omega
     case rel => exact ⟨m + 1 + 1, by have := HI.out; have := HLT.out; omega, by go_num, HBE.out⟩
   ·have d0 : (y.op == 22) = false := beq_false_of_ne hop
    clear hi hbe hA y0 y5 hy HPY hop hlt
    go_wp2
    go_roundg (gk - 1)
    case measure => have := HI.out; have := HLT.out; omega
    case rel => exact ⟨i + 1, by have := HI.out; have := HLT.out; omega, by go_num, HBE.out⟩
  ·obtain rfl : i = xs.length := by omega
   have HC := hid (HA2.out wr hA)
   have gA := Aft.refl wr
   have s0 : ∀ w', Aft wr w' → w'.cell? ⟨W.heap.size, 0, none⟩ = some (.slice ta n1 tc) := fun w' h => r0 w' (hbe.trans h)
   have s1 : ∀ w', Aft wr w' → w'.cell? ⟨W.heap.size, 1, none⟩ = some (.slice (some ⟨fb, foff, none⟩) n2 fc) := fun w' h => r1 w' (hbe.trans h)
   have HAX := hid hA
   clear hi hbe hA HPH HA2 r0 r1 r2 r3
   go_wp2_with fail
   refine HC.out.mono ?_
   rintro e w5 ⟨v5, rfl, hv5, hb5⟩
   obtain ⟨q5, c5, rfl, _⟩ := ints_slice hv5
   have HE := hid ((HAX.out.go hb5).out HBW.out)
   clear HC hv5 hb5 s0 s1 gA
   go_wp2
   go_ret
   exact ⟨rfl, HE.out⟩
end Go.Proofs.YtpejpnffcepdlaaGreatDoor.SyB
namespace Go.Proofs.YtpejpnffcepdlaaGreatDoor.SyC
open Go.RowKit Go.Lib RwO SetP IntO TyM TyP TyB TyC TyRE ShM ShP ShA ShB ShC ShE ShI ShJ ShR ShOpen ShRS ShRJ ShTB ShTP Aft LwT ShN LvM LvQ FwP FwQ FwR FwK FdQ TyH ShK FvB SvQ SvP SvK SyK BlkG

set_option maxRecDepth 100000 in
set_option maxHeartbeats 16000000 in
theorem walk_of (CC : CheckC) (CK : KindC) (W : World) (v : Value) (p : Px) (S : PrAt W v p) (_ : ∀ y ∈ p.types, TyOk y) (z : ∀ y ∈ p.funcs, FxOk y) (ln : Lens p) (f : Int) (fw : (Lit.int .i64 f).wf = true) (r : Int) (rw : (Lit.int .i64 r).wf = true) (ht : Tab W) :
  Calls Tryz.prog 5 #[v, .int .i64 f, .int .i64 r] W fun e W' => e = .returned (.bool true) ∧ Below W.heap.size W W' := by
 have v64f : I64 f := i64_wf fw
 have v64r : I64 r := i64_wf rw
 have hok : POk p := fun f hf b hb => ⟨(z f hf b hb).1, fun y hy => ((z f hf b hb).2 y hy).1⟩
 have HOK := hid hok
 have hp0 := S
 obtain ⟨vt, vf, rfl, hvt, hvf⟩ := S
 obtain ⟨W0, hW0⟩ : ∃ W0, W0 = W.alloc (.cells #[vt, vf] 27) := ⟨_, rfl⟩
 have hbW : Below W.heap.size W W0 := by rw [hW0]; exact alloc_below _ _
 have k1 : W0.heap[W.heap.size]? = some (.cells #[vt, vf] 27 (0, 0)) := by rw [hW0]; exact alloc_new _ _
 have HP := hid (hp0.below hbW)
 have HT := hid (ht.on hbW)
 have HAL := hid (SyA.alive_of CC W0 HT.out)
 have HG := hid (fun wx (h : Aft W0 wx) => ShR.great_calls p _ 150 wx (HP.out.below h.below) ln (by decide) (by decide))
 obtain ⟨ta, tc, rfl⟩ := hvt.slice
 obtain ⟨fa, fc, rfl, _⟩ := hvf.slice
 have l0 : ∀ w', Aft W0 w' → w'.cell? ⟨W.heap.size, 0, none⟩ = some (.slice ta p.types.length tc) := later_cells k1 0 _ rfl
 have l1 : ∀ w', Aft W0 w' → w'.cell? ⟨W.heap.size, 1, none⟩ = some (.slice fa p.funcs.length fc) := later_cells k1 1 _ rfl
 have HBW := hid hbW
 have HW := hid hW0
 have h0 := Aft.refl W0
 have HIf := hid v64f
 have HIr := hid v64r
 clear hvt hvf hp0 hbW hW0 k1 z ln ht hok v64f fw v64r rw
 generalize p.types.length = n1 at *
 generalize p.funcs.length = n2 at *
 go_enter Tryz.func5, Tryz.ntmps5
 go_wp2_with fail
 rw [← HW.out]
 refine HAL.out.mono ?_
 rintro e w1 ⟨rfl, hb1⟩
 have h1 := h0.go hb1
 have HG1 := hid (HG.out w1 h1)
 clear HAL hb1 HG
 go_wp2_with fail
 refine HG1.out.mono ?_
 rintro e w2 ⟨gb, rfl, hsmall, hb2⟩
 have h2 := h1.go hb2
 clear HG1 hb2
 cases gb with
 | true =>
  clear hsmall
  go_wp2
  go_ret
  exact ⟨rfl, h2.out HBW.out⟩
 | false =>
 have HS := hid (hsmall rfl)
 clear hsmall h1 h0
 have HC := hid (CK p f r _ w2 (HP.out.below h2.below) (HT.out.on h2.below) HS.out HOK.out HIf.out HIr.out)
 go_wp2_with fail
 all_goals (try (exfalso; omega))
 refine HC.out.mono ?_
 rintro e w3 ⟨rfl, hb3⟩
 have h3 := h2.go hb3
 have HPL := hid (place_calls p f r _ w3 (HP.out.below h3.below) (HT.out.on h3.below) HS.out HOK.out HIr.out)
 clear HC hb3 h2
 go_wp2_with fail
 refine HPL.out.mono ?_
 rintro e w4 ⟨rfl, hb4⟩
 have h4 := h3.go hb4
 have HE4 := hid (h4.out HBW.out)
 clear HPL hb4 h3
 by_cases hc : (kindE p f r = 0 ∨ kindE p f r = 6) ∧ placeE p f r = 0
 rotate_left
 ·have hk : kindN p f r = 0 := by
   by_cases he : kindE p f r = 0
   ·exact absurd ⟨.inl he, kind_place he⟩ hc
   ·exact kindN_zero he
  rw [hk]
  have hc2 : (kindE p f r != 0 && kindE p f r != 6 || placeE p f r != 0) = true := by
   cases h1 : (kindE p f r != 0 && kindE p f r != 6) with
   | true => rfl
   | false =>
    rw [Bool.false_or]
    simp only [bne_iff_ne, ne_eq]
    intro h2
    refine hc ⟨?_, h2⟩
    by_cases he : kindE p f r = 0
    ·exact .inl he
    ·refine .inr (Classical.byContradiction fun h6 => ?_)
     simp [he, h6] at h1
  clear hc hk HS HOK HP HT HIf HIr
  generalize kindE p f r = ke at *
  generalize placeE p f r = pe at *
  generalize placeB p f r = pb at *
  generalize placeI p f r = pi at *
  by_cases z1 : ke = 0
  ·subst z1
   have z3 : (pe != 0) = true := by simpa using hc2
   clear hc2
   go_wp2
   all_goals first | (exfalso; omega) | (go_ret; exact ⟨rfl, HE4.out⟩)
  ·by_cases z2 : ke = 6
   ·subst z2
    have z3 : (pe != 0) = true := by simpa using hc2
    clear hc2
    go_wp2
    all_goals first | (exfalso; omega) | (go_ret; exact ⟨rfl, HE4.out⟩)
   ·have y1 : (ke != 0) = true := by simpa using z1
    have y2 : (ke != 6) = true := by simpa using z2
    clear hc2
    go_wp2
    all_goals first | (exfalso; omega) | (go_ret; exact ⟨rfl, HE4.out⟩)
 obtain ⟨hke, hpe⟩ := hc
 have hsn := kind_right hpe hke
 obtain ⟨k, x, hx, hfn, hreg⟩ := reg_kind HOK.out hsn hpe
 have hki := kind_is hsn hpe
 have hct := (chk_zero (snd_zero hsn).1).1
 obtain ⟨vt0, vf0, he0, ht0, hf0⟩ := HP.out
 cases he0
 have HSC := hid (isScalar_calls p.types _ (kindN p f r) w4 (ht0.below h4.below))
 rw [hfn] at hki
 have r0 : ∀ w', Aft w4 w' → w'.cell? ⟨W.heap.size, 0, none⟩ = some (.slice ta n1 tc) := fun w' h => l0 w' (h4.trans h)
 have h0 := Aft.refl w4
 rcases hreg with ⟨hb, hpl⟩ | ⟨c, q, y, hb, hi, hcl, hy, hop, hya, hyn⟩
 ·obtain ⟨ha, hit, h00⟩ := isT_of hct hpl
  rw [if_neg (by omega)] at hki
  have hkn := kindN_type hki
  rw [hfn] at hkn
  rw [← hkn] at ha hit
  rw [hit, ha] at HSC
  rw [hki, hpe, hb]
  clear hke hpe hsn hki hct hb hpl ha hit h00 hkn hx hfn ht0 hf0 HS HOK HP HT HIf HIr l0 l1
  generalize kindN p f r = kn at *
  generalize placeI p f r = pi at *
  go_wp2_with fail
  refine HSC.out.mono ?_
  rintro e w5 ⟨rfl, hb5⟩
  have HE5 := hid ((h4.go hb5).out HBW.out)
  clear HSC hb5 r0 h4
  go_wp2
  go_ret
  exact ⟨rfl, HE5.out⟩
 have hmem : x ∈ p.funcs := List.mem_of_getElem? hx.at_
 have hk1 := hx.eq
 have hk2 := hx.lt
 obtain ⟨fb, foff, fcap, ao, bc, he, d0, d1, hbl⟩ := fn_later hf0 hx
 cases he
 obtain ⟨gb, goff, xa, xc, rfl, z0, hins, _, _, _, _⟩ := blk_ins hbl hcl
 obtain ⟨ib, ioff, aa, ac, fa2, fc2, rfl, y0, _, _, _, _, _, _, _, _⟩ := ins_later hins hy
 have r1 : ∀ w', Aft w4 w' → w'.cell? ⟨W.heap.size, 1, none⟩ = some (.slice (some ⟨fb, foff, none⟩) p.funcs.length fc) := fun w' h => l1 w' (h4.trans h)
 have r2 : ∀ w', Aft w4 w' → w'.cell? ⟨fb, foff + k * 2 + 1, none⟩ = some (.slice (some ⟨gb, goff, none⟩) x.blocks.length bc) := fun w' h => d1 w' (h4.trans h)
 have r3 : ∀ w', Aft w4 w' → w'.cell? ⟨gb, goff + c * 5, none⟩ = some (.slice (some ⟨ib, ioff, none⟩) (insAt x.blocks c).length xc) := fun w' h => z0 w' (h4.trans h)
 have r4 : ∀ w', Aft w4 w' → w'.cell? ⟨ib, ioff + q * 7, none⟩ = some (.int .u8 y.op) := fun w' h => y0 w' (h4.trans h)
 have hql : q < (insAt x.blocks c).length := (List.getElem?_eq_some_iff.1 hy).1
 have HAN := hid (fun wx (h : Aft W0 wx) => answers_calls y.op hop.1 hop.2 wx (HT.out.on h.below))
 subst hk1
 have hfl : (k : Int) < (p.funcs.length : Int) := by omega
 have hcl2 : (c : Int) < (x.blocks.length : Int) := by omega
 have hql2 : (q : Int) < ((insAt x.blocks c).length : Int) := by omega
 rw [hpe, hb, hi]
 by_cases hans : answersB y.op = true
 ·have hpl := hya hans
  obtain ⟨ha, hit, h00⟩ := isT_of hct hpl
  rw [if_neg (by omega)] at hki
  have hkn := kindN_type hki
  rw [hfn] at hkn
  rw [← hkn] at ha hit
  rw [hit, ha] at HSC
  rw [hans] at HAN
  rw [hki]
  clear hke hpe hsn hki hct hb hi hpl ha hit h00 hkn hx hfn ht0 hf0 HS HOK HP HT HIf HIr l0 l1 d0 d1 hbl z0 hins y0 hya hyn hy hop hmem hans
  generalize kindN p k r = kn at *
  generalize p.funcs.length = n2 at *
  generalize (insAt x.blocks c).length = xl at *
  generalize x.blocks.length = bl at *
  generalize y.op = op at *
  go_wp2_with fail
  refine HSC.out.mono ?_
  rintro e w5 ⟨rfl, hb5⟩
  have h5 := h0.go hb5
  clear HSC hb5
  go_wp2_with fail
  refine (HAN.out w5 (h4.trans h5)).mono ?_
  rintro e w6 ⟨rfl, hb6⟩
  have HE6 := hid (((h4.trans h5).go hb6).out HBW.out)
  clear HAN hb6 h5 h4 h0 r0 r1 r2 r3 r4
  go_wp2
  go_ret
  exact ⟨rfl, HE6.out⟩
 ·have hans2 : answersB y.op = false := by simpa using hans
  have hty := hyn hans2
  rw [if_pos (by omega)] at hki
  have hkn := kindN_zero (p := p) (f := k) (r := r) (by omega)
  rw [hkn] at HSC
  rw [hans2] at HAN
  rw [hki, hkn]
  clear hke hpe hsn hki hct hb hi hkn hx hfn ht0 hf0 HS HOK HP HT HIf HIr l0 l1 d0 d1 hbl z0 hins y0 hya hyn hy hop hmem hans hans2 hty
  generalize p.funcs.length = n2 at *
  generalize (insAt x.blocks c).length = xl at *
  generalize x.blocks.length = bl at *
  generalize y.op = op at *
  generalize isT p.types 0 = tb at *
  generalize askT p.types 0 = te at *
  go_wp2_with fail
  refine HSC.out.mono ?_
  rintro e w5 ⟨rfl, hb5⟩
  have h5 := h0.go hb5
  clear HSC hb5
  go_wp2_with fail
  refine (HAN.out w5 (h4.trans h5)).mono ?_
  rintro e w6 ⟨rfl, hb6⟩
  have HE6 := hid (((h4.trans h5).go hb6).out HBW.out)
  clear HAN hb6 h5 h4 h0 r0 r1 r2 r3 r4
  go_wp2
  go_ret
  exact ⟨rfl, HE6.out⟩
end Go.Proofs.YtpejpnffcepdlaaGreatDoor.SyC
namespace Go.Proofs.YtpejpnffcepdlaaGreatDoor.SyL
open Go.RowKit Go.Lib RwO SetP IntO TyM TyP TyB TyC ShM ShP ShA ShB ShC ShE ShI ShJ ShR ShOpen Aft LwT ShN LvM LvQ FwP FwQ FwR FwK FdQ FdK LgK ShK SvQ SvP SvK SyK SyM

set_option maxRecDepth 100000 in
set_option maxHeartbeats 16000000 in
theorem walk_of (CC : CheckC) (CK : KindC) (CA : AtC) (CS : SetC) (W : World) (v : Value) (p : Px) (S : PrAt W v p) (_ : ∀ y ∈ p.types, TyOk y) (z : ∀ y ∈ p.funcs, FxOk y) (ln : Lens p) (f : Int) (fw : (Lit.int .i64 f).wf = true) (b : Int) (bw : (Lit.int .i64 b).wf = true) (pl : Int) (plw : (Lit.int .i64 pl).wf = true) (ht : Tab W) :
  Calls Tryz.prog 6 #[v, .int .i64 f, .int .i64 b, .int .i64 pl] W fun e W' => e = .returned (.bool true) ∧ Below W.heap.size W W' := by
 have v64f : I64 f := i64_wf fw
 have v64b : I64 b := i64_wf bw
 have v64pl : I64 pl := i64_wf plw
 have hok : POk p := fun f hf b hb => ⟨(z f hf b hb).1, fun y hy => ((z f hf b hb).2 y hy).1⟩
 have HOK := hid hok
 have hp0 := S
 obtain ⟨vt, vf, rfl, hvt, hvf⟩ := S
 obtain ⟨W0, hW0⟩ : ∃ W0, W0 = W.alloc (.cells #[vt, vf] 27) := ⟨_, rfl⟩
 have hbW : Below W.heap.size W W0 := by rw [hW0]; exact alloc_below _ _
 have k1 : W0.heap[W.heap.size]? = some (.cells #[vt, vf] 27 (0, 0)) := by rw [hW0]; exact alloc_new _ _
 have HP := hid (hp0.below hbW)
 have HT := hid (ht.on hbW)
 have HAL := hid (SyA.alive_of CC W0 HT.out)
 have HG := hid (fun wx (h : Aft W0 wx) => ShR.great_calls p _ 150 wx (HP.out.below h.below) ln (by decide) (by decide))
 obtain ⟨ta, tc, rfl⟩ := hvt.slice
 obtain ⟨fa, fc, rfl, _⟩ := hvf.slice
 have l0 : ∀ w', Aft W0 w' → w'.cell? ⟨W.heap.size, 0, none⟩ = some (.slice ta p.types.length tc) := later_cells k1 0 _ rfl
 have l1 : ∀ w', Aft W0 w' → w'.cell? ⟨W.heap.size, 1, none⟩ = some (.slice fa p.funcs.length fc) := later_cells k1 1 _ rfl
 have HBW := hid hbW
 have HW := hid hW0
 have h0 := Aft.refl W0
 have HIf := hid v64f
 have HIb := hid v64b
 have HIpl := hid v64pl
 clear hvt hvf hp0 hbW hW0 k1 z ln ht hok v64f fw v64b bw v64pl plw
 generalize p.types.length = n1 at *
 generalize p.funcs.length = n2 at *
 go_enter Tryz.func6, Tryz.ntmps6
 go_wp2_with fail
 rw [← HW.out]
 refine HAL.out.mono ?_
 rintro e w1 ⟨rfl, hb1⟩
 have h1 := h0.go hb1
 have HG1 := hid (HG.out w1 h1)
 clear HAL hb1 HG
 go_wp2_with fail
 refine HG1.out.mono ?_
 rintro e w2 ⟨gb, rfl, hsmall, hb2⟩
 have h2 := h1.go hb2
 clear HG1 hb2
 cases gb with
 | true =>
  clear hsmall
  go_wp2
  go_ret
  exact ⟨rfl, h2.out HBW.out⟩
 | false =>
 have HS := hid (hsmall rfl)
 clear hsmall h1 h0
 have HC := hid (CC p _ w2 (HP.out.below h2.below) (HT.out.on h2.below) HS.out HOK.out)
 go_wp2_with fail
 refine HC.out.mono ?_
 rintro e w3 ⟨rfl, hb3⟩
 have h3 := h2.go hb3
 clear HC hb3 h2
 by_cases hs : sndE p = 0
 rotate_left
 ·have e0 : (sndE p != 0) = true := by simpa using hs
  have HE := hid (h3.out HBW.out)
  clear hs HS HOK HP HT HIf HIb HIpl
  generalize sndE p = sn at *
  go_wp2
  go_ret
  exact ⟨rfl, HE.out⟩
 rw [hs]
 have HA := hid (CA p f b pl _ w3 (HP.out.below h3.below) (HT.out.on h3.below) HS.out HOK.out HIf.out HIb.out HIpl.out)
 go_wp2_with fail
 refine HA.out.mono ?_
 rintro e w4 ⟨u, rfl, hu, hb4⟩
 have h4 := h3.go hb4
 clear HA hb4 h3
 by_cases he : atE p f b pl = 0
 rotate_left
 ·have e0 : (atE p f b pl != 0) = true := by simpa using he
  rw [live_len he] at hu
  obtain ⟨q1, c1, rfl, _⟩ := ints_slice hu
  have HE := hid (h4.out HBW.out)
  clear he hu hs HS HOK HP HT HIf HIb HIpl
  generalize atE p f b pl = ae at *
  go_wp2
  go_ret
  exact ⟨rfl, HE.out⟩
 rw [he]
 have HR : Hid (∀ r ∈ liveA p f b pl, I64 r) := fun r hr => by
  have h5 := (live_set hs HOK.out he hr).2.2
  obtain ⟨hf, r0, r1⟩ := place_find (kind_place h5)
  obtain ⟨k, x, hx⟩ := has1 hf
  rw [cnt_at hx] at r1
  have := par_le HS.out.parts hx.sig0 hx.sig1
  have := hx.many
  exact ⟨by omega, by omega⟩
 have HSET : Hid (∀ r ∈ liveA p f b pl, ∀ wx, Aft W0 wx → Calls Tryz.prog 22 #[.agg #[.slice ta n1 tc, .slice fa n2 fc], .int .i64 f, .int .i64 r, .int .i64 b, .int .i64 pl] wx (BoolE true 0 wx)) := fun r hr wx h => by
  have h5 := CS p f r b pl _ wx (HP.out.below h.below) (HT.out.on h.below) HS.out HOK.out HIf.out (HR.out r hr) HIb.out HIpl.out
  rwa [(live_set hs HOK.out he hr).1, (live_set hs HOK.out he hr).2.1] at h5
 have HKI : Hid (∀ r ∈ liveA p f b pl, ∀ wx, Aft W0 wx → ∃ n, Calls Tryz.prog 10 #[.agg #[.slice ta n1 tc, .slice fa n2 fc], .int .i64 f, .int .i64 r] wx (TwoR n 0 wx)) := fun r hr wx h => by
  have h5 := CK p f r _ wx (HP.out.below h.below) (HT.out.on h.below) HS.out HOK.out HIf.out (HR.out r hr)
  rw [(live_set hs HOK.out he hr).2.2] at h5
  exact ⟨_, h5⟩
 have HU := hid hu
 obtain ⟨ua, uc, rfl, hul⟩ := ints_slice hu
 have HUL := hid hul
 clear hu hul hs he HS HOK HP HT HIf HIb HIpl HR
 generalize liveA p f b pl = l at *
 go_wp2_with fail
 go_loopg [12] l.length (fun gk iv wr => ∃ k : Nat, k + gk = l.length ∧ iv = .int .i64 k ∧ Aft w4 wr)
 case atStart => exact ⟨0, by omega, rfl, Aft.refl _⟩
 case round =>
  obtain ⟨k, hk, rfl, hbe⟩ := hrel
  have HK := hid hk
  have hA : Aft W0 wr := h4.go hbe
  by_cases hlt : k < l.length
  ·have HLT := hid hlt
   obtain ⟨b2, o2, rfl, _, c2⟩ := TyP.ints_at (HU.out.below hbe) k hlt
   have hmem := List.getElem_mem hlt
   have hSET := HSET.out _ hmem
   have hKI := HKI.out _ hmem
   have cs := later c2
   have hkl : (k : Int) < (l.length : Int) := by omega
   have hkb : k ≤ 9223372036854775806 := by have := HUL.out; omega
   have HSX := hid (hSET wr.drew hA.drew)
   have HKX := hid hKI
   have hD := (Aft.refl wr).drew
   have r0 : ∀ w', Aft wr w' → w'.cell? ⟨W.heap.size, 0, none⟩ = some (.slice ta n1 tc) := fun w' h => l0 w' (hA.trans h)
   have r1 : ∀ w', Aft wr w' → w'.cell? ⟨W.heap.size, 1, none⟩ = some (.slice fa n2 fc) := fun w' h => l1 w' (hA.trans h)
   have HBE := hid hbe
   have HAX := hid hA
   clear hk hbe hA hmem hSET hKI c2
   generalize l[k] = x at *
   go_wp2_with fail
   go_region_held3 (fun w' => Aft wr w') (first | exact hD.go hb5 | exact hD)
    ((go_at_call 22; (with_reducible refine HSX.out.mono ?_); rintro e w5 ⟨rfl, hb5⟩))
   all_goals
    have h5 := hD.go hb5
    have s0 : ∀ w', Aft w5 w' → w'.cell? ⟨W.heap.size, 0, none⟩ = some (.slice ta n1 tc) := fun w' h => r0 w' (h5.trans h)
    have s1 : ∀ w', Aft w5 w' → w'.cell? ⟨W.heap.size, 1, none⟩ = some (.slice fa n2 fc) := fun w' h => r1 w' (h5.trans h)
    have sx : ∀ w', Aft w5 w' → _ := fun w' h => cs w' (h5.trans h)
    have hD5 := (Aft.refl w5).drew
    obtain ⟨kn, hkn⟩ := HKX.out w5.drew ((HAX.out.trans h5).trans hD5)
    have HKY := hid hkn
    have HB5 := hid (HBE.out.trans h5)
    clear hb5 r0 r1 cs hD h5 hkn HSX HKX
    go_wp2_with fail
    go_region_held3 (fun w' => Aft w5 w') (first | exact hD5.go hb6 | exact hD5)
     ((go_at_call 10; (with_reducible refine HKY.out.mono ?_); rintro e w6 ⟨rfl, hb6⟩))
    all_goals
     have HBD := hid (HB5.out.trans (hD5.go hb6))
     clear hb6 s0 s1 sx hD5
     go_wp2
     go_roundg (gk - 1)
     case measure => have := HK.out; have := HLT.out; omega
     case rel => exact ⟨k + 1, by have := HK.out; have := HLT.out; omega, by go_num, HBD.out⟩
  ·have HE := hid (hA.out HBW.out)
   obtain rfl : k = l.length := by omega
   clear hk hbe hA HSET HKI
   go_wp2
   go_ret
   exact ⟨rfl, HE.out⟩
end Go.Proofs.YtpejpnffcepdlaaGreatDoor.SyL
