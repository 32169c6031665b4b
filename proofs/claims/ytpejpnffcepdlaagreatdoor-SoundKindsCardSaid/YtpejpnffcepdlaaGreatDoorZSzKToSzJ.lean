/- Walks over sound's form, Check and Kind. Walks over sound's Check and Kind: the package's contracts. -/
import Derived.Test.YtpejpnffcepdlaaGreatDoorZSzRToSzZ
import Derived.Test.YtpejpnffcepdlaaGreatDoorZBlkGToFeP
import Derived.Test.YtpejpnffcepdlaaGreatDoorZLvQToSvK
import Derived.Deep.CutRange
namespace Go.Proofs.YtpejpnffcepdlaaGreatDoor.SzK
open Go.RowKit Go.Lib SetP IntO TyM TyP TyB TyC ShM ShP ShA ShB ShC ShE ShH ShI ShJ ShK Aft FwM FwP FwQ FwR FwK FvB FdM FdQ FdK IntG BlkG LvM SvQ SvP SvK SwA SwPh SzM SzE SzB SzC SzY SzW SzZ

set_option maxRecDepth 100000 in
set_option maxHeartbeats 16000000 in
theorem form_calls (CR : ReachC) (CP : PredsC) (CA : AllC) (p : Px) (v : Value) (w : World) (hp : PrAt w v p) (hs : Small p) (hok : POk p) (hc : chkP p = 0) (htab : Tab w) :
  Calls Tryz.prog 29 #[v] w (ErrR (formC p) w) := by
 obtain ⟨hct, hn1, hn8, hmf⟩ := chk_zero hc
 have hhas : ∀ (i : Nat) (x : Fx), p.funcs[i]? = some x → Has1 p i i x := fun i x hx => by
  have hi := (List.getElem?_eq_some_iff.1 hx).1
  obtain ⟨⟨a, b⟩, _, c, d, e⟩ := may_zero (hmf _ (List.mem_of_getElem? hx))
  exact ⟨rfl, hi, hx, a, b, c, d, e⟩
 obtain ⟨x0, hx0⟩ := some_at (l := p.funcs) (i := 0) (by omega)
 have hh0 := hhas 0 x0 hx0
 have hsk := sig_ok hc (List.mem_of_getElem? hx0)
 obtain ⟨sn, hsn⟩ : ∃ sn : Nat, x0.sig = sn := ⟨x0.sig.toNat, by have := hh0.sig0; omega⟩
 have hsl : sn < p.types.length := by have := hh0.sig1; omega
 have hsi : (sn : Int) < (p.types.length : Int) := by omega
 have hfp := fn_plain hct hsk
 rw [hsn] at hfp
 obtain ⟨e0, y, hy, _⟩ := plainB_iff.1 hfp.1
 obtain ⟨en, hen⟩ : ∃ en : Nat, (tyN p.types (sn : Int)).elem = en := ⟨(tyN p.types (sn : Int)).elem.toNat, by omega⟩
 have hel : en < p.types.length := by have := (List.getElem?_eq_some_iff.1 hy).1; rw [hen] at this; omega
 have heli : (en : Int) < (p.types.length : Int) := by omega
 have hp0 := hp
 obtain ⟨vt, vf, rfl, ht, hf⟩ := hp
 obtain ⟨W, hW⟩ : ∃ W, W = w.alloc (.cells #[vt, vf] 27) := ⟨_, rfl⟩
 have hbW : Below w.heap.size w W := by rw [hW]; exact alloc_below _ _
 have k1 : W.heap[w.heap.size]? = some (.cells #[vt, vf] 27 (0, 0)) := by rw [hW]; exact ShB.alloc_new _ _
 have HFC := hid (fun (i : Nat) (x : Fx) (hx : p.funcs[i]? = some x) (wx : World) (ha : Aft W wx) => formFunc_calls CR CP CA p i x _ wx ((hp0.below hbW).below ha.below) hs hok hc (hhas i x hx) (htab.on (hbW.trans (ha.below.mono hbW.size))))
 have htW := ht.below hbW
 have hfW := hf.below fnStays hbW
 obtain ⟨ta, tc, rfl⟩ := ht.slice
 obtain ⟨fa, fc, rfl, _⟩ := hf.slice
 obtain ⟨fb, foff, fcap, ao, bc, he, d0, _, _⟩ := fn_later hfW hh0
 cases he
 rw [hsn, Nat.zero_mul, Nat.add_zero] at d0
 obtain ⟨tg, toff, pa, pc, rfl, t0, t1, t2, t3, _⟩ := ty_later htW sn hsl
 obtain ⟨tg2, toff2, _, _, he2, u0, _, _, _, _⟩ := ty_later htW en hel
 cases he2
 rw [hen] at t1
 have l0 : ∀ w', Aft W w' → w'.cell? ⟨w.heap.size, 0, none⟩ = some (.slice (some ⟨tg, toff, none⟩) p.types.length tc) := later_cells k1 0 _ rfl
 have l1 : ∀ w', Aft W w' → w'.cell? ⟨w.heap.size, 1, none⟩ = some (.slice (some ⟨fb, foff, none⟩) p.funcs.length fc) := later_cells k1 1 _ rfl
 have HFI : Hid (firstB p = (decide ((tyN p.types (sn : Int)).parts.length = 0) && decide ((tyN p.types (en : Int)).kind = 1))) := by
  show _ = _
  unfold firstB
  have e : sigAt p 0 = (sn : Int) := by unfold sigAt; rw [show (0 : Int).toNat = 0 from rfl, hx0]; exact hsn
  rw [e, hen, isK_nat]
 have HAN : Hid (formC p = (firstB p && p.funcs.all (fnC p))) := rfl
 have HAL := hid (fun (h : AllG (fnC p) p.funcs p.funcs.length) => allG_all h)
 have HNO := hid (fun n u hu hn => allG_not (q := fnC p) (l := p.funcs) (n := n) (u := u) hu hn)
 have HER := hid (fun (s : ByteArray) (r : Int) (wx : World) (v : Value) (hv : BadAt wx v) => in_calls s r v wx hv)
 have hfpos : (0 : Int) < (p.funcs.length : Int) := by omega
 have HN8 := hid hn8
 have HBW := hid hbW
 have HW := hid hW
 have h0 := Aft.refl W
 clear ht hf htW hfW hbW hW k1 hp0 hs hok hc hct hn1 hn8 hmf hhas hx0 hh0 hsk hsn hsl hfp e0 hy hen hel htab
 generalize formC p = ans at *
 generalize firstB p = fi at *
 generalize p.funcs.all (fnC p) = fal at *
 generalize (tyN p.types (sn : Int)).parts.length = np at *
 generalize (tyN p.types (sn : Int)).kind = tk at *
 generalize (tyN p.types (sn : Int)).many = tm at *
 generalize (tyN p.types (en : Int)).kind = ek at *
 generalize p.types.length = n1 at *
 go_enter Tryz.func29, Tryz.ntmps29
 go_upto_region 1 with fail
 rw [← HW.out]
 go_cut [3] from 15 (fun c wc => c = .pointer (some ⟨W.heap.size, 0, none⟩) ∧ wc.heap[W.heap.size]? = some (.cells #[.int .u8 tk, .int .i64 (en : Int), .int .i64 tm, .slice pa np pc] 43 (0, 0)) ∧ Aft W wc)
 case first => as_aux_lemma =>
  have hd := Aft.refl W
  have r0 := l0; have r1 := l1; have r2 := d0; have s0 := t0; have s1 := t1; have s2 := t2; have s3 := t3
  have hd1 : Aft W W.drew := hd.drew
  have hd2 : ∀ o, Aft W (W.alloc o) := fun o => hd.alloc o
  have hd3 : ∀ o, Aft W (W.drew.alloc o) := fun o => hd1.alloc o
  go_region
  go_wp2_with fail
  go_meet
  case rel => first | exact ⟨rfl, ShB.alloc_new _ _, hd.alloc _⟩ | exact ⟨rfl, ShB.alloc_new _ _, (hd.alloc _).drew⟩
 case rest =>
 obtain ⟨rfl, k5, ha5⟩ := hcut
 obtain ⟨W5, rfl⟩ : ∃ W5 : World, W5 = wc := ⟨_, rfl⟩
 have m1 := later_cells k5 1 _ rfl W5 (Aft.refl _)
 have m3 := later_cells k5 3 _ rfl W5 (Aft.refl _)
 have p0 := l0 W5 ha5; have p1 := l1 W5 ha5; have p2 := d0 W5 ha5; have p3 := u0 W5 ha5
 by_cases hbad : np = 0 ∧ ek = 1
 rotate_left
 ·have HX : Hid (ans = false) := by
   show _ = _
   rw [HAN.out, HFI.out]
   have e : (decide (np = 0) && decide (ek = 1)) = false := by rw [Bool.eq_false_iff]; intro h; rw [Bool.and_eq_true, decide_eq_true_eq, decide_eq_true_eq] at h; exact hbad h
   rw [e]; rfl
  have key : ∀ T : Prop, ((0 : Int) < (np : Int) → T) → (¬ (0 : Int) < (np : Int) → (ek != 1) = true → T) → T := fun T g1 g2 => by
   by_cases h : np = 0
   ·exact g2 (by omega) (by rw [bne_iff_ne]; exact fun e => hbad ⟨h, e⟩)
   ·exact g1 (by omega)
  clear hbad
  refine key _ (fun hnp => ?_) (fun hnp hek => ?_)
  all_goals
   clear key
   go_wp2_with fail
   all_goals (try (exfalso; omega))
   refine (HER.out _ _ _ _ (bad_form _)).mono ?_
   rintro e w9 ⟨v9, rfl, hv9, hb9⟩
   have h9 := ha5.go hb9
   have HV9 := hid hv9
   obtain ⟨t9, w9u, rfl⟩ := hv9.no.iface
   clear hv9 hb9
   go_wp2
   go_ret
   exact ⟨_, rfl, by rw [HX.out]; exact HV9.out, h9.out HBW.out⟩
 ·obtain ⟨hnp, hek⟩ := hbad
  subst hnp hek
  have HFI2 : Hid (ans = fal) := by show _ = _; rw [HAN.out, HFI.out]; rfl
  have HA5 := hid ha5
  clear HFI HAN
  go_wp2_with fail
  go_loopg [39] p.funcs.length (fun gk iv wr => ∃ n : Nat, n + gk = p.funcs.length ∧ iv = .int .i64 n ∧ AllG (fnC p) p.funcs n ∧ Aft W wr)
  case atStart => exact ⟨0, by omega, rfl, fun i u hi => absurd hi (by omega), ha5⟩
  case round =>
   obtain ⟨n, hn, rfl, hall, hA⟩ := hrel
   have HN := hid hn
   have HALL := hid hall
   clear hn hall p0 p1 p2 p3
   by_cases hnt : n < p.funcs.length
   ·have HNT := hid hnt
    obtain ⟨u, hu⟩ := some_at hnt
    have HFU := hid (HFC.out n u hu wr hA)
    have HNX := hid (fun hh => allG_next HALL.out hu hh)
    have HN2 := hid (fun hh => HNO.out n u hu hh)
    have hni : (n : Int) < (p.funcs.length : Int) := by omega
    have hnb : n ≤ 9223372036854775806 := by have := HN8.out; omega
    have q0 := l0 wr hA; have q1 := l1 wr hA
    clear hu HFC HAL HNO hnt
    generalize fnC p u = qu at *
    go_wp2_with fail
    refine HFU.out.mono ?_
    rintro e w5 ⟨v5, rfl, hv5, hb5⟩
    have h5 := hA.go hb5
    cases qu with
    | true =>
     obtain rfl := hv5.yes
     have HX := hid (HNX.out rfl)
     clear hv5 hb5
     go_wp2
     go_roundg (gk - 1)
     case measure => have := HN.out; have := HNT.out; omega
     case rel => exact ⟨n + 1, by have := HN.out; have := HNT.out; omega, by go_num, HX.out, h5⟩
    | false =>
     have HX := hid (HN2.out rfl)
     have HV := hid hv5.no
     obtain ⟨t1, u1, rfl⟩ := HV.out.iface
     clear hv5 hb5
     go_wp2_with fail
     refine (HER.out _ _ w5 _ HV.out).mono ?_
     rintro e w9 ⟨v9, rfl, hv9, hb9⟩
     have h9 := h5.go hb9
     have HV9 := hid hv9
     obtain ⟨t9, w9u, rfl⟩ := hv9.no.iface
     clear hv9 hb9
     go_wp2
     go_ret
     exact ⟨_, rfl, by rw [HFI2.out, HX.out]; exact HV9.out, h9.out HBW.out⟩
   ·obtain rfl : n = p.funcs.length := by have := HN.out; omega
    have HX := hid (HAL.out HALL.out)
    clear hnt
    go_wp2
    go_ret
    exact ⟨_, rfl, by rw [HFI2.out, HX.out]; rfl, hA.out HBW.out⟩
end Go.Proofs.YtpejpnffcepdlaaGreatDoor.SzK
namespace Go.Proofs.YtpejpnffcepdlaaGreatDoor.SzJ
open Go.RowKit Go.Lib SetP IntO TyM TyP TyB TyC ShM ShP ShA ShB ShC ShE ShH ShI ShJ ShK Aft FwM FwP FwQ FwR FwK FvB FdM FdQ FdK IntG BlkG LvM SvQ SvP SvK SwA SwPh SzM SzE SzB SzC SzY SzW SzZ SzK

set_option maxRecDepth 100000 in
set_option maxHeartbeats 16000000 in
theorem check_of (CR : ReachC) (CP : PredsC) (CA : AllC) (p : Px) (v : Value) (w : World) (hp : PrAt w v p) (htab : Tab w) (hs : Small p) (hok : POk p) :
  Calls Tryz.prog 12 #[v] w (NumR (sndE p) w) := by
 have hp0 := hp
 obtain ⟨vt, vf, rfl, ht, hf⟩ := hp
 obtain ⟨W, hW⟩ : ∃ W, W = w.alloc (.cells #[vt, vf] 27) := ⟨_, rfl⟩
 have hbW : Below w.heap.size w W := by rw [hW]; exact alloc_below _ _
 have k1 : W.heap[w.heap.size]? = some (.cells #[vt, vf] 27 (0, 0)) := by rw [hW]; exact ShB.alloc_new _ _
 have HCK := hid (ShI.check_calls p _ W (hp0.below hbW) (htab.on hbW) hs hok)
 have HFM := hid (fun (hc : chkP p = 0) (wx : World) (ha : Aft W wx) => form_calls CR CP CA p _ wx ((hp0.below hbW).below ha.below) hs hok hc (htab.on (hbW.trans (ha.below.mono hbW.size))))
 obtain ⟨ta, tc, rfl⟩ := ht.slice
 obtain ⟨fa, fc, rfl, _⟩ := hf.slice
 have l0 : ∀ w', Aft W w' → w'.cell? ⟨w.heap.size, 0, none⟩ = some (.slice ta p.types.length tc) := later_cells k1 0 _ rfl
 have l1 : ∀ w', Aft W w' → w'.cell? ⟨w.heap.size, 1, none⟩ = some (.slice fa p.funcs.length fc) := later_cells k1 1 _ rfl
 have HSD := hid (snd_is hok)
 have HBW := hid hbW
 have HW := hid hW
 have h0 := Aft.refl W
 clear ht hf hbW hW k1 hp0 hs hok htab
 generalize sndE p = ans at *
 generalize p.types.length = n1 at *
 generalize p.funcs.length = n2 at *
 by_cases hc : chkP p = 0
 rotate_left
 ·have hne : (chkP p != 0) = true := by rw [bne_iff_ne]; exact hc
  have HX : Hid (ans = chkP p) := by show _ = _; rw [HSD.out, if_pos hc]
  clear hc HFM HSD
  generalize chkP p = ce at *
  go_enter Tryz.func12, Tryz.ntmps12
  go_wp2_with fail
  rw [← HW.out]
  refine HCK.out.mono ?_
  rintro e w1 ⟨rfl, hb1⟩
  have h1 := h0.go hb1
  clear hb1 HCK
  go_wp2
  go_ret
  exact ⟨by rw [HX.out]; rfl, h1.out HBW.out⟩
 ·have HFM := hid (HFM.out hc)
  have HSD2 : Hid (ans = if formC p = true then 0 else 120) := by show _ = _; rw [HSD.out, if_neg (fun e => e hc)]
  rw [hc] at HCK
  clear hc HSD
  generalize formC p = q at *
  go_enter Tryz.func12, Tryz.ntmps12
  go_wp2_with fail
  rw [← HW.out]
  refine HCK.out.mono ?_
  rintro e w1 ⟨rfl, hb1⟩
  have h1 := h0.go hb1
  have p0 := l0 w1 h1; have p1 := l1 w1 h1
  clear hb1 HCK
  go_wp2_with fail
  refine (HFM.out w1 h1).mono ?_
  rintro e w2 ⟨v2, rfl, hv2, hb2⟩
  have h2 := h1.go hb2
  clear hb2 HFM
  cases q with
  | true =>
   obtain rfl := hv2.yes
   have HX : Hid (ans = 0) := HSD2.out
   have HA := hid (SzE.is_none 120 w2)
   clear hv2
   go_wp2_with fail
   refine HA.out.mono ?_
   rintro e w3 ⟨rfl, hb3⟩
   have h3 := h2.go hb3
   have HB := hid (SzE.is_none 6 w3)
   clear hb3 HA
   go_wp2_with fail
   refine HB.out.mono ?_
   rintro e w4 ⟨rfl, hb4⟩
   have h4 := h3.go hb4
   clear hb4 HB
   go_wp2
   go_ret
   exact ⟨by rw [HX.out]; rfl, h4.out HBW.out⟩
  | false =>
   have HX : Hid (ans = 120) := HSD2.out
   obtain ⟨c, n, he, hcc⟩ := hv2.no
   obtain ⟨t2, u2, rfl⟩ := he.iface
   have HA := hid (is_errors c 120 _ n w2 he)
   have HE := hid he
   clear hv2 he
   rcases hcc with rfl | rfl
   ·go_wp2_with fail
    refine HA.out.mono ?_
    rintro e w3 ⟨rfl, hb3⟩
    have h3 := h2.go hb3
    clear hb3 HA
    go_wp2
    go_ret
    exact ⟨by rw [HX.out]; rfl, h3.out HBW.out⟩
   ·go_wp2_with fail
    refine HA.out.mono ?_
    rintro e w3 ⟨rfl, hb3⟩
    have h3 := h2.go hb3
    have HB := hid (is_errors 6 6 _ n w3 (HE.out.keep hb3))
    clear hb3 HA
    go_wp2_with fail
    refine HB.out.mono ?_
    rintro e w4 ⟨rfl, hb4⟩
    have h4 := h3.go hb4
    clear hb4 HB
    go_wp2
    go_ret
    exact ⟨by rw [HX.out]; rfl, h4.out HBW.out⟩

set_option maxRecDepth 100000 in
set_option maxHeartbeats 16000000 in
theorem kind_of (CR : ReachC) (CP : PredsC) (CA : AllC) (p : Px) (f r : Int) (v : Value) (w : World) (hp : PrAt w v p) (htab : Tab w) (hs : Small p) (hok : POk p) (hf64 : I64 f) (hr64 : I64 r) :
  Calls Tryz.prog 10 #[v, .int .i64 f, .int .i64 r] w (TwoR (kindN p f r) (kindE p f r) w) := by
 have hp0 := hp
 obtain ⟨vt, vf, rfl, ht, hf⟩ := hp
 obtain ⟨W, hW⟩ : ∃ W, W = w.alloc (.cells #[vt, vf] 27) := ⟨_, rfl⟩
 have hbW : Below w.heap.size w W := by rw [hW]; exact alloc_below _ _
 have k1 : W.heap[w.heap.size]? = some (.cells #[vt, vf] 27 (0, 0)) := by rw [hW]; exact ShB.alloc_new _ _
 have HCK := hid (check_of CR CP CA p _ W (hp0.below hbW) (htab.on hbW) hs hok)
 have HPL := hid (fun (wx : World) (ha : Aft W wx) => place_calls p f r _ wx ((hp0.below hbW).below ha.below) (htab.on (hbW.trans (ha.below.mono hbW.size))) hs hok hr64)
 have HTO := hid (fun (k : Nat) (x : Fx) (h1 : Has1 p k k x) (wx : World) (ha : Aft W wx) => SzT.types_calls p k x _ wx ((hp0.below hbW).below ha.below) hs hok h1 (htab.on (hbW.trans (ha.below.mono hbW.size))))
 obtain ⟨ta, tc, rfl⟩ := ht.slice
 obtain ⟨fa, fc, rfl, _⟩ := hf.slice
 have l0 : ∀ w', Aft W w' → w'.cell? ⟨w.heap.size, 0, none⟩ = some (.slice ta p.types.length tc) := later_cells k1 0 _ rfl
 have l1 : ∀ w', Aft W w' → w'.cell? ⟨w.heap.size, 1, none⟩ = some (.slice fa p.funcs.length fc) := later_cells k1 1 _ rfl
 have HKE : Hid (kindE p f r = if sndE p ≠ 0 then sndE p else if placeE p f r ≠ 0 then placeE p f r else if typeI p.types (fnP p f) r < 0 then 6 else 0) := rfl
 have HKN : Hid (kindN p f r = if kindE p f r = 0 then typeI p.types (fnP p f) r else 0) := rfl
 have HBW := hid hbW
 have HW := hid hW
 have h0 := Aft.refl W
 by_cases hz : sndE p = 0
 rotate_left
 ·have hne : (sndE p != 0) = true := by rw [bne_iff_ne]; exact hz
  have HX : Hid (kindE p f r = sndE p) := by show _ = _; rw [HKE.out, if_pos hz]
  have HY : Hid (kindN p f r = 0) := by show _ = _; rw [HKN.out, HX.out, if_neg hz]
  clear hz hs hok htab ht hf hbW hW k1 hp0 HPL HTO HKE HKN hf64 hr64
  rw [HX.out, HY.out]
  generalize sndE p = ce at *
  generalize p.types.length = n1 at *
  generalize p.funcs.length = n2 at *
  go_enter Tryz.func10, Tryz.ntmps10
  go_wp2_with fail
  rw [← HW.out]
  refine HCK.out.mono ?_
  rintro e w1 ⟨rfl, hb1⟩
  have h1 := h0.go hb1
  clear hb1 HCK
  go_wp2
  go_ret2
  exact ⟨rfl, h1.out HBW.out⟩
 rw [hz] at HCK
 by_cases hpl : placeE p f r = 0
 rotate_left
 ·have hne : (placeE p f r != 0) = true := by rw [bne_iff_ne]; exact hpl
  have HX : Hid (kindE p f r = placeE p f r) := by show _ = _; rw [HKE.out, if_neg (fun e => e hz), if_pos hpl]
  have HY : Hid (kindN p f r = 0) := by show _ = _; rw [HKN.out, HX.out, if_neg hpl]
  clear hz hs hok htab ht hf hbW hW k1 hp0 HTO HKE HKN hf64 hr64 hpl
  rw [HX.out, HY.out]
  generalize placeE p f r = ce at *
  generalize p.types.length = n1 at *
  generalize p.funcs.length = n2 at *
  go_enter Tryz.func10, Tryz.ntmps10
  go_wp2_with fail
  rw [← HW.out]
  refine HCK.out.mono ?_
  rintro e w1 ⟨rfl, hb1⟩
  have h1 := h0.go hb1
  have p0 := l0 w1 h1; have p1 := l1 w1 h1
  clear hb1 HCK
  go_wp2_with fail
  refine (HPL.out w1 h1).mono ?_
  rintro e w2 ⟨rfl, hb2⟩
  have h2 := h1.go hb2
  clear hb2 HPL
  go_wp2
  go_ret2
  exact ⟨rfl, h2.out HBW.out⟩
 obtain ⟨k, x, rfl, h1x, hr0, hr1⟩ := place_range hpl
 have hfn : fnP p (k : Int) = x := by unfold fnP; rw [Int.toNat_natCast, h1x.at_]; rfl
 obtain ⟨q, rfl⟩ : ∃ q : Nat, r = q := ⟨r.toNat, by omega⟩
 have hq : q < parOf p.types x.sig + manyB x.blocks := by omega
 have hty := type_neg (snd_zero hz).1 hok (List.mem_of_getElem? h1x.at_) hq
 have HTY := hid (fun (wx : World) (vr : Value) (hv : IntsAt wx vr (regL p.types x)) => typn_calls vr (regL p.types x) q (typeI p.types x q) wx hv (regL_at hq) (hty.imp id And.left))
 have HTO2 := hid (HTO.out k x h1x)
 rw [hfn] at HKE HKN
 rw [if_neg (fun e => e hz), if_neg (fun e => e hpl)] at HKE
 have HRL := hid (show (regL p.types x).length ≤ 40000 by rw [regL_len]; have := hs.many x (List.mem_of_getElem? h1x.at_); have := par_le hs.parts h1x.sig0 h1x.sig1; omega)
 rw [hpl] at HPL
 clear hz hs hok htab ht hf hbW hW k1 hp0 HTO hf64 hr64 hpl hfn hq hr0 hr1 h1x
 generalize kindE p (k : Int) (q : Int) = ke at *
 generalize kindN p (k : Int) (q : Int) = kn at *
 generalize typeI p.types x (q : Int) = ty at *
 generalize placeB p (k : Int) (q : Int) = pb at *
 generalize placeI p (k : Int) (q : Int) = pi at *
 generalize regL p.types x = rg at *
 generalize p.types.length = n1 at *
 generalize p.funcs.length = n2 at *
 go_enter Tryz.func10, Tryz.ntmps10
 go_wp2_with fail
 rw [← HW.out]
 refine HCK.out.mono ?_
 rintro e w1 ⟨rfl, hb1⟩
 have h1 := h0.go hb1
 have p0 := l0 w1 h1; have p1 := l1 w1 h1
 clear hb1 HCK
 go_wp2_with fail
 refine (HPL.out w1 h1).mono ?_
 rintro e w2 ⟨rfl, hb2⟩
 have h2 := h1.go hb2
 have p0 := l0 w2 h2; have p1 := l1 w2 h2
 clear hb2 HPL
 go_wp2_with fail
 refine (HTO2.out w2 h2).mono ?_
 rintro e w3 ⟨u3, m3, rfl, ho3, hb3⟩
 have h3 := h2.go hb3
 have hi3 := intsAt_of_owns ho3 (by have := HRL.out; omega)
 have HTT := hid (HTY.out w3 _ hi3)
 obtain ⟨ua, uc, rfl, _⟩ := ints_slice hi3
 clear hb3 HTO2 ho3 hi3
 go_wp2_with fail
 refine HTT.out.mono ?_
 rintro e w4 ⟨v4, rfl, hv4, hb4⟩
 have h4 := h3.go hb4
 clear hb4 HTT
 by_cases ht0 : 0 ≤ ty
 ·rw [if_pos ht0] at hv4
  obtain rfl := hv4
  have HX : Hid (ke = 0) := by show _ = _; rw [HKE.out, if_neg (by omega)]
  have HY : Hid (kn = ty) := by show _ = _; rw [HKN.out, HX.out, if_pos rfl]
  have HIF : Hid ((if 0 ≤ ty then ty else 0) = ty) := if_pos ht0
  have HA := hid (SzE.is_none 6 w4)
  rw [HIF.out]
  clear ht0 hty
  go_wp2_with fail
  refine HA.out.mono ?_
  rintro e w5 ⟨rfl, hb5⟩
  have h5 := h4.go hb5
  clear hb5 HA
  go_wp2
  go_ret2
  exact ⟨by rw [HX.out, HY.out]; rfl, h5.out HBW.out⟩
 ·rw [if_neg ht0] at hv4
  have HX : Hid (ke = 6) := by show _ = _; rw [HKE.out, if_pos (by omega)]
  have HY : Hid (kn = 0) := by show _ = _; rw [HKN.out, HX.out, if_neg (by decide)]
  have HIF : Hid ((if 0 ≤ ty then ty else 0) = 0) := if_neg ht0
  obtain ⟨n, he⟩ := hv4
  obtain ⟨t4, u4, rfl⟩ := he.iface
  have HA := hid (is_errors 6 6 _ n w4 he)
  rw [HIF.out]
  clear he ht0 hty
  go_wp2_with fail
  refine HA.out.mono ?_
  rintro e w5 ⟨rfl, hb5⟩
  have h5 := h4.go hb5
  clear hb5 HA
  go_wp2
  go_ret2
  exact ⟨by rw [HX.out, HY.out]; rfl, h5.out HBW.out⟩
end Go.Proofs.YtpejpnffcepdlaaGreatDoor.SzJ
