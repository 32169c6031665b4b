/- A walk over sound's reads. A walk over sound's typesOf. Walks over sound's fits, put together, and end. A walk over sound's block. A walk over sound's formFunc. Plain facts: what the code's way of asking says of a program is what the document asks. -/
import Derived.Test.YtpejpnffcepdlaaGreatDoorZSzBToSzF
import Derived.Test.YtpejpnffcepdlaaGreatDoorZShBToShW
import Derived.Test.YtpejpnffcepdlaaGreatDoorZTyMToShN
import Derived.Test.YtpejpnffcepdlaaGreatDoorZFwRToTyRT
import Derived.Test.YtpejpnffcepdlaaGreatDoorZAllGToSwUt
import Derived.Test.YtpejpnffcepdlaaGreatDoorZTyBToTyTI
import Derived.Test.YtpejpnffcepdlaaGreatDoorZShIToIntG
import Derived.Test.YtpejpnffcepdlaaGreatDoorZShAToShAn
import Derived.Test.YtpejpnffcepdlaaGreatDoorZRgZToRgY
import Derived.Test.YtpejpnffcepdlaaGreatDoorZSzG
import Derived.Test.YtpejpnffcepdlaaGreatDoorZLvQToSvK
import Derived.Test.YtpejpnffcepdlaaGreatDoorZBlkGToFeP
import Derived.Test.YtpejpnffcepdlaaGreatDoorZResT
namespace Go.Proofs.YtpejpnffcepdlaaGreatDoor.SzR
open Go.RowKit Go.Lib SetP IntO TyM TyP TyB TyC TyQ ShM ShP ShA ShB ShC ShE ShH ShI ShJ ShU Aft FwM FwP FwQ FwR FwO FdM FdQ IntG BlkG LvM SoM SvQ SvP SwA SwU SzM SzE SzB SzC SzS

/-! in plain -/
def plB (x : Ix) (bk n : Nat) : Nat := if x.op = 22 then ((x.frm[n]?).getD 0).toNat else bk
def plP (l : List Bx) (x : Ix) (bk pl n : Nat) : Nat := if x.op = 22 then (insAt l (plB x bk n)).length else pl
/-- is the n-th register that an instruction reads set, and has it a type? -/
def okR (t : List Ty) (f : Fx) (x : Ix) (bk pl n : Nat) (u : Int) : Bool := isSetL (parOf t f.sig) f.blocks u (plB x bk n : Nat) (plP f.blocks x bk pl n : Nat) && decide (0 ≤ typeI t f u)
def okAt (t : List Ty) (f : Fx) (x : Ix) (bk pl n : Nat) : Bool := okR t f x bk pl n (((usesOf x)[n]?).getD 0)
def readsB (t : List Ty) (f : Fx) (x : Ix) (bk pl : Nat) : Bool := (List.range (usesOf x).length).all (okAt t f x bk pl)
theorem reads_yes {t : List Ty} {f : Fx} {x : Ix} {bk pl : Nat} (h : ∀ i, i < (usesOf x).length → okAt t f x bk pl i = true) : readsB t f x bk pl = true := by
 unfold readsB
 exact List.all_eq_true.2 fun i hi => h i (List.mem_range.1 hi)
theorem reads_no {t : List Ty} {f : Fx} {x : Ix} {bk pl i : Nat} (hi : i < (usesOf x).length) (h : okAt t f x bk pl i = false) : readsB t f x bk pl = false := by
 cases e : readsB t f x bk pl with
 | false => rfl
 | true =>
  unfold readsB at e
  have := List.all_eq_true.1 e i (List.mem_range.2 hi)
  rw [h] at this
  cases this
theorem okAt_eq {t : List Ty} {f : Fx} {x : Ix} {bk pl n : Nat} {u : Int} (h : (usesOf x)[n]? = some u) : okAt t f x bk pl n = okR t f x bk pl n u := by unfold okAt; rw [h]; rfl
theorem uses_phi {x : Ix} (h : x.op = 22) : usesOf x = x.args := by
 unfold usesOf hasAB twoB argsB
 rw [h]
 simp
/-- registers' types, or an error -/
def ReadsR (ok : Bool) (l : List Int) (w : World) (e : Ending) (w' : World) : Prop := ∃ a n c v, e = .returned (.tuple #[.slice a n c, v]) ∧ (ok = true → IntsAt w' (.slice a n c) l) ∧ ErrIf ok w' v ∧ Below w.heap.size w w'

variable (b : Nat) (p : Px) (k : Nat) (x : Fx) (fl rl : List Int)
set_option maxRecDepth 100000 in
set_option maxHeartbeats 8000000 in
theorem reads_calls (i : Ix) (va vf : Value) (bk pl : Nat) (w : World) (hb : BdAt w b p k x fl rl) (ho : BdOk p x fl rl) (htab : Tab w) (hx : InsOk p.types.length p.funcs.length x.blocks.length (parOf p.types x.sig + manyB x.blocks) i)
  (ha : IntsAt w va i.args) (hf : IntsAt w vf i.frm) (hbk : bk < x.blocks.length) (hpl : pl ≤ (insAt x.blocks bk).length) :
  Calls Tryz.prog 163 #[.pointer (some ⟨b, 0, none⟩), ixV i va vf, .int .i64 (bk : Int), .int .i64 (pl : Int)] w (ReadsR (readsB p.types x i bk pl) ((usesOf i).map (typeI p.types x)) w) := by
 obtain ⟨aa, ac, rfl, _⟩ := ints_slice ha
 obtain ⟨fa, fc, rfl, _⟩ := ints_slice hf
 have hal : i.args.length ≤ 16 := by
  by_cases e : i.op = 22
  ·have := hx.phi e; omega
  ·have := (hx.other e).2; omega
 have hul := LgX.uses_len hal
 obtain ⟨W, hW⟩ : ∃ W, W = w.alloc (.cells #[.int .u8 i.op, .int .i64 i.typ, .int .i64 i.a, .int .i64 i.b, .int .i64 i.n, .slice aa i.args.length ac, .slice fa i.frm.length fc] 31) := ⟨_, rfl⟩
 have hbW : Below w.heap.size w W := by rw [hW]; exact alloc_below _ _
 have k1 : W.heap[w.heap.size]? = some (.cells #[.int .u8 i.op, .int .i64 i.typ, .int .i64 i.a, .int .i64 i.b, .int .i64 i.n, .slice aa i.args.length ac, .slice fa i.frm.length fc] 31 (0, 0)) := by rw [hW]; exact ShB.alloc_new _ _
 have HU := hid (uses_calls i _ _ W (by have := hx.op1; omega) (by have := hx.op2; omega) (htab.on hbW) (ha.below hbW) (by omega) ⟨fa, i.frm.length, fc, rfl⟩)
 have hbW2 := hb.below hbW
 have HRD := hid (fun (r : Nat) (bk pl : Nat) (wx : World) (hax : Aft W wx) (hr : r < parOf p.types x.sig + manyB x.blocks) (hbk : bk < x.blocks.length) (hpl : pl ≤ (insAt x.blocks bk).length) => read_calls b p k x fl rl r bk pl wx (hbW2.on hax) ho hr hbk hpl)
 have HUS := hid (fun r (hr : r ∈ usesOf i) => hx.uses r hr)
 have HOK := hid (fun n u (hu : (usesOf i)[n]? = some u) => okAt_eq (t := p.types) (f := x) (bk := bk) (pl := pl) hu)
 have HYES := hid (fun h => reads_yes (t := p.types) (f := x) (x := i) (bk := bk) (pl := pl) h)
 have HNO := hid (fun n (hn : n < (usesOf i).length) h => reads_no (t := p.types) (f := x) (bk := bk) (pl := pl) hn h)
 have HTA := hid (fun n u (hu : (usesOf i)[n]? = some u) => tyTake_next (q := typeI p.types x) hu)
 have HTL := hid (tyTake_all (q := typeI p.types x) (l := usesOf i))
 have HTN := hid (fun n (hn : n ≤ (usesOf i).length) => tyTake_len (q := typeI p.types x) hn)
 have l0 := later_cells k1 0 _ rfl
 have l1 := later_cells k1 1 _ rfl
 have l2 := later_cells k1 2 _ rfl
 have l3 := later_cells k1 3 _ rfl
 have l4 := later_cells k1 4 _ rfl
 have l5 := later_cells k1 5 _ rfl
 have l6 := later_cells k1 6 _ rfl
 have HUL := hid hul
 have HW := hid hW
 have HBW := hid hbW
 have h0 := Aft.refl W
 by_cases hphi : i.op = 22
 ·have huph := uses_phi hphi
  obtain ⟨hfa, _, hf16, hfb⟩ := hx.phi hphi
  have hlen : i.frm.length = (usesOf i).length := by rw [huph]; exact hfa
  have hd : (i.op == 22) = true := by rw [beq_iff_eq]; exact hphi
  have HFB := hid hfb
  have HFA := hid hlen
  have HFI := hid (fun wx (h : Aft W wx) => (hf.below hbW).below h.below)
  have HOR := hid (fun n u (c : Nat) (hc : i.frm[n]? = some (c : Int)) => show okR p.types x i bk pl n u = (isSetL (parOf p.types x.sig) x.blocks u c (insAt x.blocks c).length && decide (0 ≤ typeI p.types x u)) by
   have e : plB i bk n = c := by unfold plB; rw [if_pos hphi, hc]; show ((c : Int)).toNat = c; omega
   have e2 : plP x.blocks i bk pl n = (insAt x.blocks c).length := by unfold plP; rw [if_pos hphi, e]
   unfold okR; rw [e, e2])
  obtain ⟨ba, bc, _, _, _, _, _, _, _, _, _, _, kb, hbl, _, _, _, _, _⟩ := hbW2
  have lb := later_cells kb 1 _ rfl
  have HBL := hid hbl
  have m0 := l0 W h0; have m1 := l1 W h0; have m2 := l2 W h0; have m3 := l3 W h0; have m4 := l4 W h0; have m5 := l5 W h0; have m6 := l6 W h0
  rw [hW] at m0 m1 m2 m3 m4 m5 m6
  clear ho htab hx ha hf hbk hpl hal hul hW hbW k1 l1 l2 l3 l4 l5 hphi huph hfa hf16 hfb hlen kb hbl hb
  generalize readsB p.types x i bk pl = ans at *
  go_enter Tryz.func163, Tryz.ntmps163
  go_wp2_with fail
  rw [← HW.out]
  refine HU.out.mono ?_
  rintro e w1 ⟨u0, m0, rfl, hown, hb1⟩
  have hints := intsAt_of_owns hown (by have := HUL.out; omega)
  obtain ⟨ua, uc, rfl, _⟩ := ints_slice hints
  have h1 := h0.go hb1
  have HI := hid hints
  have HH1 := hid h1
  clear hown hb1 hints HU
  go_wp2_with fail
  go_loopg [10, 18] (usesOf i).length (fun gk lv iv wr => ∃ n : Nat, n + gk = (usesOf i).length ∧ iv = .int .i64 n ∧ (∀ j, j < n → okAt p.types x i bk pl j = true) ∧ wr.ownsRow w1.heap.size 3 1 lv n (intVals (tyTake (typeI p.types x) (usesOf i) n)) ∧ Below w1.heap.size w1 wr)
  case atStart => exact ⟨0, by omega, rfl, fun j hj => absurd hj (by omega), World.ownsRow_nil _ _ _ _, Below.refl _ _⟩
  case round =>
   obtain ⟨n, hn, rfl, hall, hown, hbe⟩ := hrel
   have HN := hid hn
   have HALL := hid hall
   have HOWN := hid hown
   have HBE := hid hbe
   have hA : Aft W wr := h1.trans hbe
   obtain ⟨la, ln, rfl⟩ := own_slice hown
   clear hn hall hown hbe
   by_cases hnt : n < (usesOf i).length
   ·have HNT := hid hnt
    obtain ⟨u, hu⟩ := some_at hnt
    obtain ⟨b2, o2, rfl, c2⟩ := int_at (HI.out.below HBE.out) hu
    have hu2 := HUS.out u (List.mem_of_getElem? hu)
    obtain ⟨r, rfl⟩ : ∃ r : Nat, u = r := ⟨u.toNat, by omega⟩
    obtain ⟨c, hc⟩ := some_at (l := i.frm) (i := n) (by rw [HFA.out]; exact hnt)
    have hc2 := HFB.out c (List.mem_of_getElem? hc)
    obtain ⟨d, rfl⟩ : ∃ d : Nat, c = d := ⟨c.toNat, by omega⟩
    have hdl : d < x.blocks.length := by omega
    obtain ⟨fg, fo, rfl, f0⟩ := int_at (HFI.out wr hA) hc
    obtain ⟨bg, bo, xa, xc, rfl, e0, _, _, _, _, _⟩ := blk_ins (HBL.out) hdl
    have HRR := hid (HRD.out r d (insAt x.blocks d).length wr hA (by omega) hdl (Nat.le_refl _))
    have HO2 := hid ((HOK.out n _ hu).trans (HOR.out n _ d hc))
    have hfn : (n : Int) < (i.frm.length : Int) := by rw [HFA.out]; omega
    have hdi : (d : Int) < (x.blocks.length : Int) := by omega
    have e0 := e0 wr hA
    have lb := lb wr hA
    have l6 := l6 wr hA
    have HNX := hid (HNO.out n hnt)
    have HTK := hid (HTA.out n _ hu)
    have hnl : (n : Int) < ((usesOf i).length : Int) := by omega
    have hnb : n ≤ 9223372036854775806 := by have := HUL.out; omega
    have r0 := l0 wr hA
    clear hu l0 hnt hu2 HRD
    generalize hok : okAt p.types x i bk pl n = ok at *
    have HOKE := hid hok
    clear hok
    generalize (isSetL (parOf p.types x.sig) x.blocks r d (insAt x.blocks d).length && decide (0 ≤ typeI p.types x r)) = st at *
    have hos := HO2.out
    subst hos
    go_wp2_with fail
    refine HRR.out.mono ?_
    rintro e w3 ⟨m3, v3, rfl, hm3, hv3, hb3⟩
    have h3 := hA.go hb3
    have HO3 := hid (ownsRow_below HOWN.out hb3)
    have HB3 := hid (HBE.out.trans (hb3.mono HBE.out.size))
    have HV3 := hid hv3
    clear hb3 HRR HOWN HBE
    cases ok with
    | false =>
     have HX := hid (HNX.out rfl)
     obtain ⟨t1, u1, rfl⟩ := hv3.no.iface
     clear hv3 hm3 HNX HO3
     go_wp2
     go_ret2
     exact ⟨none, 0, 0, _, rfl, fun h => (by rw [HX.out] at h; cases h), by rw [HX.out]; exact HV3.out, h3.out HBW.out⟩
    | true =>
     obtain rfl := hv3.yes
     have hm := hm3 rfl
     subst hm
     have HAL2 : Hid (∀ j, j < n + 1 → okAt p.types x i bk pl j = true) := fun j hj => by
      by_cases e : j = n
      ·subst e; exact HOKE.out
      ·exact HALL.out j (by omega)
     generalize hty : typeI p.types x r = ty at *
     have HTY := hid hty
     clear hv3 hm3 HNX hty
     have hba : Below w3.heap.size w3 (w3.alloc (.cells #[.int .i64 ty] 3)) := alloc_below _ _
     have HO6 := hid (HO3.out.alloc (.cells #[.int .i64 ty] 3))
     have HI6 := hid (ints_one (w := w3.alloc (.cells #[.int .i64 ty] 3)) (b := w3.heap.size) (n := ty) (cell_new _ _ _ _ rfl) (size_new _ _ _ rfl))
     have HB6 := hid (HB3.out.trans (hba.mono HB3.out.size))
     have hsz : w1.heap.size ≤ (w3.alloc (.cells #[.int .i64 ty] 3)).heap.size := HB6.out.size
     clear hba HO3 HB3
     go_wp2_with (at_builtin; refine wpList_append_intsN rfl (.tmp 52) (.tmp 54) rfl w1.heap.size (.slice la n ln) rfl n (intVals (tyTake (typeI p.types x) (usesOf i) n)) HO6.out (by have := HUL.out; have := HNT.out; omega) (.slice (some ⟨w3.heap.size, 0, none⟩) 1 1) [ty] rfl HI6.out (by simp) hsz ?_)
     intro v7 w7 hown7 hgr7 hnr7
     have HB7 := hid (own_grown HB6.out HO6.out hgr7 hsz)
     have HO7 : Hid (w7.ownsRow w1.heap.size 3 1 v7 (n + 1) (intVals (tyTake (typeI p.types x) (usesOf i) (n + 1)))) := by
      show World.ownsRow _ _ _ _ _ _ _
      rw [HTK.out, intVals_append]
      exact hown7
     clear hown7 hgr7 hnr7 HO6 HI6 HB6 hsz
     go_wp2
     go_roundg (gk - 1)
     case measure => have := HN.out; have := HNT.out; omega
     case rel => exact ⟨n + 1, by have := HN.out; have := HNT.out; omega, by go_num, HAL2.out, HO7.out, HB7.out⟩
   ·obtain rfl : n = (usesOf i).length := by have := HN.out; omega
    have HX := hid (HYES.out HALL.out)
    have HI2 := hid (intsAt_of_owns HOWN.out (by rw [HTN.out _ (Nat.le_refl _)]; have := HUL.out; omega))
    rw [HTL.out] at HI2
    clear HALL hnt
    go_wp2
    go_ret2
    exact ⟨_, _, _, _, rfl, fun _ => HI2.out, by rw [HX.out]; rfl, hA.out HBW.out⟩
 ·have HPB := hid (fun n => show plB i bk n = bk by unfold plB; rw [if_neg hphi])
  have HPP := hid (fun n => show plP x.blocks i bk pl n = pl by unfold plP; rw [if_neg hphi])
  have hd : (i.op == 22) = false := by rw [beq_eq_false_iff_ne]; exact hphi
  have HBK := hid hbk
  have HPL := hid hpl
  have HOR := hid (fun n u => show okR p.types x i bk pl n u = (isSetL (parOf p.types x.sig) x.blocks u bk pl && decide (0 ≤ typeI p.types x u)) by unfold okR; rw [HPB.out, HPP.out])
  have m0 := l0 W h0; have m1 := l1 W h0; have m2 := l2 W h0; have m3 := l3 W h0; have m4 := l4 W h0; have m5 := l5 W h0; have m6 := l6 W h0
  rw [hW] at m0 m1 m2 m3 m4 m5 m6
  clear ho htab hx ha hf hbk hpl hal hul hW hbW k1 l1 l2 l3 l4 l5 hphi l6 hbW2 hb
  generalize readsB p.types x i bk pl = ans at *
  go_enter Tryz.func163, Tryz.ntmps163
  go_wp2_with fail
  rw [← HW.out]
  refine HU.out.mono ?_
  rintro e w1 ⟨u0, m0, rfl, hown, hb1⟩
  have hints := intsAt_of_owns hown (by have := HUL.out; omega)
  obtain ⟨ua, uc, rfl, _⟩ := ints_slice hints
  have h1 := h0.go hb1
  have HI := hid hints
  have HH1 := hid h1
  clear hown hb1 hints HU
  go_wp2_with fail
  go_loopg [2, 3, 10, 18] (usesOf i).length (fun gk bv pv lv iv wr => ∃ n : Nat, n + gk = (usesOf i).length ∧ bv = .int .i64 (bk : Int) ∧ pv = .int .i64 (pl : Int) ∧ iv = .int .i64 n ∧ (∀ j, j < n → okAt p.types x i bk pl j = true) ∧ wr.ownsRow w1.heap.size 3 1 lv n (intVals (tyTake (typeI p.types x) (usesOf i) n)) ∧ Below w1.heap.size w1 wr)
  case atStart => exact ⟨0, by omega, rfl, rfl, rfl, fun j hj => absurd hj (by omega), World.ownsRow_nil _ _ _ _, Below.refl _ _⟩
  case round =>
   obtain ⟨n, hn, rfl, rfl, rfl, hall, hown, hbe⟩ := hrel
   have HN := hid hn
   have HALL := hid hall
   have HOWN := hid hown
   have HBE := hid hbe
   have hA : Aft W wr := h1.trans hbe
   obtain ⟨la, ln, rfl⟩ := own_slice hown
   clear hn hall hown hbe
   by_cases hnt : n < (usesOf i).length
   ·have HNT := hid hnt
    obtain ⟨u, hu⟩ := some_at hnt
    obtain ⟨b2, o2, rfl, c2⟩ := int_at (HI.out.below HBE.out) hu
    have hu2 := HUS.out u (List.mem_of_getElem? hu)
    obtain ⟨r, rfl⟩ : ∃ r : Nat, u = r := ⟨u.toNat, by omega⟩
    have HRR := hid (HRD.out r bk pl wr hA (by omega) HBK.out HPL.out)
    have HO2 := hid ((HOK.out n _ hu).trans (HOR.out n _))
    have HNX := hid (HNO.out n hnt)
    have HTK := hid (HTA.out n _ hu)
    have hnl : (n : Int) < ((usesOf i).length : Int) := by omega
    have hnb : n ≤ 9223372036854775806 := by have := HUL.out; omega
    have r0 := l0 wr hA
    clear hu l0 hnt hu2 HRD
    generalize hok : okAt p.types x i bk pl n = ok at *
    have HOKE := hid hok
    clear hok
    generalize (isSetL (parOf p.types x.sig) x.blocks r bk pl && decide (0 ≤ typeI p.types x r)) = st at *
    have hos := HO2.out
    subst hos
    go_wp2_with fail
    refine HRR.out.mono ?_
    rintro e w3 ⟨m3, v3, rfl, hm3, hv3, hb3⟩
    have h3 := hA.go hb3
    have HO3 := hid (ownsRow_below HOWN.out hb3)
    have HB3 := hid (HBE.out.trans (hb3.mono HBE.out.size))
    have HV3 := hid hv3
    clear hb3 HRR HOWN HBE
    cases ok with
    | false =>
     have HX := hid (HNX.out rfl)
     obtain ⟨t1, u1, rfl⟩ := hv3.no.iface
     clear hv3 hm3 HNX HO3
     go_wp2
     go_ret2
     exact ⟨none, 0, 0, _, rfl, fun h => (by rw [HX.out] at h; cases h), by rw [HX.out]; exact HV3.out, h3.out HBW.out⟩
    | true =>
     obtain rfl := hv3.yes
     have hm := hm3 rfl
     subst hm
     have HAL2 : Hid (∀ j, j < n + 1 → okAt p.types x i bk pl j = true) := fun j hj => by
      by_cases e : j = n
      ·subst e; exact HOKE.out
      ·exact HALL.out j (by omega)
     generalize hty : typeI p.types x r = ty at *
     have HTY := hid hty
     clear hv3 hm3 HNX hty
     have hba : Below w3.heap.size w3 (w3.alloc (.cells #[.int .i64 ty] 3)) := alloc_below _ _
     have HO6 := hid (HO3.out.alloc (.cells #[.int .i64 ty] 3))
     have HI6 := hid (ints_one (w := w3.alloc (.cells #[.int .i64 ty] 3)) (b := w3.heap.size) (n := ty) (cell_new _ _ _ _ rfl) (size_new _ _ _ rfl))
     have HB6 := hid (HB3.out.trans (hba.mono HB3.out.size))
     have hsz : w1.heap.size ≤ (w3.alloc (.cells #[.int .i64 ty] 3)).heap.size := HB6.out.size
     clear hba HO3 HB3
     go_wp2_with (at_builtin; refine wpList_append_intsN rfl (.tmp 52) (.tmp 54) rfl w1.heap.size (.slice la n ln) rfl n (intVals (tyTake (typeI p.types x) (usesOf i) n)) HO6.out (by have := HUL.out; have := HNT.out; omega) (.slice (some ⟨w3.heap.size, 0, none⟩) 1 1) [ty] rfl HI6.out (by simp) hsz ?_)
     intro v7 w7 hown7 hgr7 hnr7
     have HB7 := hid (own_grown HB6.out HO6.out hgr7 hsz)
     have HO7 : Hid (w7.ownsRow w1.heap.size 3 1 v7 (n + 1) (intVals (tyTake (typeI p.types x) (usesOf i) (n + 1)))) := by
      show World.ownsRow _ _ _ _ _ _ _
      rw [HTK.out, intVals_append]
      exact hown7
     clear hown7 hgr7 hnr7 HO6 HI6 HB6 hsz
     go_wp2
     go_roundg (gk - 1)
     case measure => have := HN.out; have := HNT.out; omega
     case rel => exact ⟨n + 1, by have := HN.out; have := HNT.out; omega, rfl, rfl, by go_num, HAL2.out, HO7.out, HB7.out⟩
   ·obtain rfl : n = (usesOf i).length := by have := HN.out; omega
    have HX := hid (HYES.out HALL.out)
    have HI2 := hid (intsAt_of_owns HOWN.out (by rw [HTN.out _ (Nat.le_refl _)]; have := HUL.out; omega))
    rw [HTL.out] at HI2
    clear HALL hnt
    go_wp2
    go_ret2
    exact ⟨_, _, _, _, rfl, fun _ => HI2.out, by rw [HX.out]; rfl, hA.out HBW.out⟩
end Go.Proofs.YtpejpnffcepdlaaGreatDoor.SzR
namespace Go.Proofs.YtpejpnffcepdlaaGreatDoor.SzT
open Go.RowKit Go.Lib SetP IntO TyM TyP TyB TyC TyT ShM ShP ShA ShB ShC ShE ShH ShI ShJ Aft FwM FwP FwQ FwR FwO FvB FdM FdQ IntG BlkG LvM LuM SoM SvQ SvP SwA SzM SzE SzB

/-! the types of the first blocks, of the first instructions -/
def upTo (t : List Ty) (x : Fx) (n : Nat) : List Int := (tyN t x.sig).parts ++ (x.blocks.take n).flatMap tyBx
theorem upTo_all (t : List Ty) (x : Fx) : upTo t x x.blocks.length = regL t x := by unfold upTo regL; rw [List.take_length]
theorem upTo_zero (t : List Ty) (x : Fx) : upTo t x 0 = (tyN t x.sig).parts := by unfold upTo; simp
theorem upTo_next {t : List Ty} {x : Fx} {n : Nat} (h : n < x.blocks.length) : upTo t x (n + 1) = upTo t x n ++ (insAt x.blocks n).map tyIx := by
 unfold upTo insAt
 rw [List.take_succ_eq_append_getElem h, List.flatMap_append, List.append_assoc, List.getElem?_eq_getElem h]
 simp [tyBx]
theorem upTo_len (t : List Ty) (x : Fx) (n : Nat) : (upTo t x n).length = parOf t x.sig + manyB (x.blocks.take n) := by
 unfold upTo
 rw [List.length_append, flat_len]
 rfl
def upIn (c : List Int) (l : List Ix) (j : Nat) : List Int := c ++ (l.take j).map tyIx
theorem upIn_zero (c : List Int) (l : List Ix) : upIn c l 0 = c := by unfold upIn; simp
theorem upIn_all (c : List Int) (l : List Ix) : upIn c l l.length = c ++ l.map tyIx := by unfold upIn; rw [List.take_length]
theorem upIn_next {c : List Int} {l : List Ix} {j : Nat} {i : Ix} (h : l[j]? = some i) : upIn c l (j + 1) = upIn c l j ++ [tyIx i] := by
 obtain ⟨hj, e⟩ := List.getElem?_eq_some_iff.1 h
 unfold upIn
 rw [List.take_succ_eq_append_getElem hj, e, List.map_append, List.append_assoc]
 rfl
theorem upIn_len {c : List Int} {l : List Ix} {j : Nat} (h : j ≤ l.length) : (upIn c l j).length = c.length + j := by
 unfold upIn
 rw [List.length_append, List.length_map, List.length_take]
 omega
theorem own_len {w : World} {B m : Nat} {e : TypeId} {v : Value} {l : List Int} (h : w.ownsRow B e 1 v m (intVals l)) : m = l.length := by
 have := h.1
 rw [intVals_length] at this
 omega

set_option maxRecDepth 100000 in
set_option maxHeartbeats 16000000 in
theorem types_calls (p : Px) (k : Nat) (x : Fx) (v : Value) (w : World) (hp : PrAt w v p) (hs : Small p) (hok : POk p) (h1 : Has1 p k k x) (htab : Tab w) :
  Calls Tryz.prog 25 #[v, .int .i64 (k : Int)] w (OwnI (regL p.types x) w) := by
 have hxm := List.mem_of_getElem? h1.at_
 have hmany := hs.many x hxm
 have hs0 := h1.sig0
 have hs1 := h1.sig1
 have hpar := par_le hs.parts hs0 hs1
 obtain ⟨vt, vf, rfl, ht, hf⟩ := hp
 obtain ⟨W, hW⟩ : ∃ W, W = w.alloc (.cells #[vt, vf] 27) := ⟨_, rfl⟩
 have hbW : Below w.heap.size w W := by rw [hW]; exact alloc_below _ _
 have k1 : W.heap[w.heap.size]? = some (.cells #[vt, vf] 27 (0, 0)) := by rw [hW]; exact ShB.alloc_new _ _
 have HTY := hid (ht.below hbW)
 have hfW := hf.below fnStays hbW
 obtain ⟨ta, tc, rfl⟩ := ht.slice
 obtain ⟨fa, fc, rfl, _⟩ := hf.slice
 obtain ⟨fb, foff, fcap, ao, bc, he, d0, d1, hbl⟩ := fn_later hfW h1
 cases he
 obtain ⟨sn, hsn⟩ : ∃ sn : Nat, x.sig = sn := ⟨x.sig.toNat, by omega⟩
 have hsl : sn < p.types.length := by omega
 have hsi : (sn : Int) < (p.types.length : Int) := by omega
 obtain ⟨tg, toff, pa, pc, rfl, _, _, _, t3, hpt⟩ := ty_later HTY.out sn hsl
 rw [hsn] at d0
 have l0 : ∀ w', Aft W w' → w'.cell? ⟨w.heap.size, 0, none⟩ = some (.slice (some ⟨tg, toff, none⟩) p.types.length tc) := later_cells k1 0 _ rfl
 have l1 : ∀ w', Aft W w' → w'.cell? ⟨w.heap.size, 1, none⟩ = some (.slice (some ⟨fb, foff, none⟩) p.funcs.length fc) := later_cells k1 1 _ rfl
 have hkl := h1.lt
 have hki : (k : Int) < (p.funcs.length : Int) := by omega
 have h0 := Aft.refl W
 have h0d := h0.drew
 have hpl : (tyN p.types (sn : Int)).parts.length ≤ 100000 := by
  have : (tyN p.types x.sig).parts.length = parOf p.types x.sig := rfl
  rw [← hsn]; omega
 have HCL := hid (cloneInts_calls _ _ W.drew (hpt W.drew h0d) hpl)
 have HAN := hid (fun (i : Ix) (hi : 0 ≤ i.op ∧ i.op ≤ 255) (wx : World) (ha : Aft W wx) => answers_calls i.op hi.1 hi.2 wx (htab.on (hbW.trans (ha.below.mono hbW.size))))
 have HOPS := hid (fun (n j : Nat) (hn : n < x.blocks.length) (i : Ix) (hi : (insAt x.blocks n)[j]? = some i) => show 0 ≤ i.op ∧ i.op ≤ 255 by
  obtain ⟨c, hc, him⟩ := insAt_mem hi hn
  exact ((hok x hxm c hc).2 i him))
 have HBL := hid hbl
 have HNX := hid (fun n (hn : n < x.blocks.length) => upTo_next (t := p.types) hn)
 have HUL := hid (fun n => show (upTo p.types x n).length ≤ 40000 by rw [upTo_len]; have := manyB_le x.blocks n; omega)
 have HIL := hid (fun n (hn : n < x.blocks.length) => show (insAt x.blocks n).length ≤ 20000 by
  have h2 := first_next (par := 0) hn
  have h3 := first_le (par := 0) (l := x.blocks) (k := n + 1)
  omega)
 have HZ : Hid (upTo p.types x 0 = (tyN p.types (sn : Int)).parts) := by show _ = _; rw [upTo_zero, hsn]
 have HALL := hid (upTo_all p.types x)
 have HBL16 := hid (show x.blocks.length ≤ 20000 from hs.blocks x hxm)
 have HBW := hid hbW
 have HW := hid hW
 clear hs hok h1 htab hxm hmany hs0 hs1 hpar ht hf hbW hW k1 hfW hbl hsn hsl hkl hpl hpt
 generalize p.types.length = q1 at *
 generalize p.funcs.length = q2 at *
 generalize hpp : (tyN p.types (sn : Int)).parts.length = np at *
 go_enter Tryz.func25, Tryz.ntmps25
 go_upto_region 1 with fail
 rw [← HW.out]
 go_region_held3 (fun w' => Aft W w') (first | exact h0d.go hb1 | exact h0d)
  ((go_at_call 63; (with_reducible refine HCL.out.mono ?_); rintro e w1 ⟨u0, m0, rfl, ho1, hb1⟩))
 have h1 := h0d.go hb1
 have ho1 : w1.ownsRow W.heap.size 3 1 u0 m0 (intVals (tyN p.types (sn : Int)).parts) := ho1
 obtain rfl := own_len ho1
 rw [← HZ.out] at ho1
 obtain ⟨ua, uc, rfl⟩ := own_slice ho1
 have HO1 := hid ho1
 clear hb1 ho1 HCL
 have l0 := l0 w1 h1
 have l1a := l1 w1 h1
 have d1a := d1 w1 h1
 go_wp2_with fail
 go_loopg [5, 30] x.blocks.length (fun gk lv iv wr => ∃ n : Nat, n + gk = x.blocks.length ∧ iv = .int .i64 n ∧ wr.ownsRow W.heap.size 3 1 lv (upTo p.types x n).length (intVals (upTo p.types x n)) ∧ Aft W wr)
 case atStart => exact ⟨0, by omega, rfl, by rw [HZ.out, hpp]; have := HO1.out; rw [HZ.out, hpp] at this; exact this, h1⟩
 case round =>
  obtain ⟨n, hn, rfl, hown, hA⟩ := hrel
  have HN := hid hn
  have HOWN := hid hown
  obtain ⟨la, lc, rfl⟩ := own_slice hown
  clear hn hown l1a d1a
  by_cases hnt : n < x.blocks.length
  ·have HNT := hid hnt
   obtain ⟨bg, bo, xa, xc, rfl, z0, hins, z1, z2, z3, z4⟩ := blk_ins HBL.out hnt
   obtain ⟨W5, hW5⟩ : ∃ W5, W5 = wr.alloc (.cells #[.slice xa (insAt x.blocks n).length xc, .int .u8 (endAt x.blocks n).kind, .int .i64 (endAt x.blocks n).a, .int .i64 (endAt x.blocks n).to, .int .i64 (endAt x.blocks n).els] 38) := ⟨_, rfl⟩
   have hb5 : Below wr.heap.size wr W5 := by rw [hW5]; exact alloc_below _ _
   have hA5 : Aft W W5 := hA.go hb5
   have HO5 := hid (ownsRow_below HOWN.out hb5)
   have HINS := hid hins
   have HNX2 := hid (HNX.out n hnt)
   have HIL2 := hid (HIL.out n hnt)
   have HUL2 := hid (HUL.out n)
   have HW5 := hid hW5
   have hnl : (n : Int) < (x.blocks.length : Int) := by omega
   have hnb : n ≤ 9223372036854775806 := by have := HBL16.out; omega
   have y0 := z0 wr hA; have y1 := z1 wr hA; have y2 := z2 wr hA; have y3 := z3 wr hA; have y4 := z4 wr hA
   clear z1 z2 z3 z4 hins hb5 hW5 hnt HIL HNX
   go_wp2_with fail
   rw [← HW5.out]
   obtain ⟨wo, hwo⟩ : ∃ wo : World, wo = wr := ⟨wr, rfl⟩
   subst hwo
   obtain ⟨gko, hgko⟩ : ∃ gko : Nat, gko = gk := ⟨gk, rfl⟩
   subst hgko
   go_loopg [5, 37] (insAt x.blocks n).length (fun gk lv iv wr => ∃ j : Nat, j + gk = (insAt x.blocks n).length ∧ iv = .int .i64 j ∧ wr.ownsRow W.heap.size 3 1 lv (upIn (upTo p.types x n) (insAt x.blocks n) j).length (intVals (upIn (upTo p.types x n) (insAt x.blocks n) j)) ∧ Aft W wr)
   case atStart => exact ⟨0, by omega, rfl, by rw [upIn_zero]; exact HO5.out, hA5⟩
   case round =>
    obtain ⟨j, hj, rfl, hown, hAi⟩ := hrel
    have HJ := hid hj
    have HOWI := hid hown
    obtain ⟨la2, lc2, rfl⟩ := own_slice hown
    clear hj hown y0 y1 y2 y3 y4
    by_cases hjt : j < (insAt x.blocks n).length
    ·have HJT := hid hjt
     obtain ⟨i, hi⟩ := some_at hjt
     have hop := HOPS.out n j HNT.out i hi
     obtain ⟨ig, io, aa, ac, ffa, ffc, rfl, e0, e1, e2, e3, e4, e5, e6, _, _⟩ := ins_later HINS.out hi
     obtain ⟨W6, hW6⟩ : ∃ W6, W6 = wr.alloc (.cells #[.int .u8 i.op, .int .i64 i.typ, .int .i64 i.a, .int .i64 i.b, .int .i64 i.n, .slice aa i.args.length ac, .slice ffa i.frm.length ffc] 31) := ⟨_, rfl⟩
     have hb6 : Below wr.heap.size wr W6 := by rw [hW6]; exact alloc_below _ _
     have k6 : W6.heap[wr.heap.size]? = some (.cells #[.int .u8 i.op, .int .i64 i.typ, .int .i64 i.a, .int .i64 i.b, .int .i64 i.n, .slice aa i.args.length ac, .slice ffa i.frm.length ffc] 31 (0, 0)) := by rw [hW6]; exact ShB.alloc_new _ _
     have m1 : ∀ w', Aft W6 w' → w'.cell? ⟨wr.heap.size, 1, none⟩ = some (.int .i64 i.typ) := later_cells k6 1 _ rfl
     have hA6 : Aft W W6 := hAi.go hb6
     have HO6 := hid (ownsRow_below HOWI.out hb6)
     have HB6 := hid hA6.below
     have HANS := hid (HAN.out i hop W6 hA6)
     have HTK := hid (upIn_next (c := upTo p.types x n) hi)
     have HLN := hid (upIn_len (c := upTo p.types x n) (Nat.le_of_lt hjt))
     have HTY : Hid (tyIx i = if answersB i.op = true then i.typ else -1) := rfl
     have HW6 := hid hW6
     have hjl : (j : Int) < ((insAt x.blocks n).length : Int) := by omega
     have hjb : j ≤ 9223372036854775806 := by have := HIL2.out; omega
     have x0 := e0 wr hAi; have x1 := e1 wr hAi; have x2 := e2 wr hAi; have x3 := e3 wr hAi; have x4 := e4 wr hAi; have x5 := e5 wr hAi; have x6 := e6 wr hAi
     have hA66 := Aft.refl W6
     clear e0 e1 e2 e3 e4 e5 e6 hop hi hb6 k6 hW6 hjt
     generalize answersB i.op = q at *
     generalize tyIx i = ti at *
     go_wp2_with fail
     rw [← HW6.out]
     refine HANS.out.mono ?_
     rintro e w7 ⟨rfl, hb7⟩
     have m1 := m1 w7 (hA66.go hb7)
     have HO7 := hid (ownsRow_below HO6.out hb7)
     have HB7 := hid (HB6.out.trans (hb7.mono HB6.out.size))
     clear hb7 HANS HO6 HB6 x0 x1 x2 x3 x4 x5 x6
     have hti : ti = if q = true then i.typ else -1 := HTY.out
     cases q
     all_goals
      simp only [if_true, Bool.false_eq_true, if_false] at hti
      subst hti
      clear HTY
     ·have hba : Below w7.heap.size w7 (w7.alloc (.cells #[.int .i64 (-1)] 3)) := alloc_below _ _
      have HO8 := hid (HO7.out.alloc (.cells #[.int .i64 (-1)] 3))
      have HI8 := hid (ints_one (w := w7.alloc (.cells #[.int .i64 (-1)] 3)) (b := w7.heap.size) (n := -1) (cell_new _ _ _ _ rfl) (size_new _ _ _ rfl))
      have HB8 := hid (HB7.out.trans (hba.mono HB7.out.size))
      have hsz : W.heap.size ≤ (w7.alloc (.cells #[.int .i64 (-1)] 3)).heap.size := HB8.out.size
      clear hba HO7 HB7
      go_wp2_with (at_builtin; refine wpList_append_intsN rfl (.tmp 46) (.tmp 48) rfl W.heap.size (.slice la2 (upIn (upTo p.types x n) (insAt x.blocks n) j).length lc2) rfl _ (intVals (upIn (upTo p.types x n) (insAt x.blocks n) j)) HO8.out (by rw [HLN.out]; have := HUL2.out; have := HIL2.out; have := HJT.out; omega) (.slice (some ⟨w7.heap.size, 0, none⟩) 1 1) [-1] rfl HI8.out (by simp) hsz ?_)
      intro v9 w9 hown9 hgr9 hnr9
      have HB9 := hid (own_grown HB8.out HO8.out hgr9 hsz)
      have HO9 : Hid (w9.ownsRow W.heap.size 3 1 v9 (upIn (upTo p.types x n) (insAt x.blocks n) (j + 1)).length (intVals (upIn (upTo p.types x n) (insAt x.blocks n) (j + 1)))) := by
       show World.ownsRow _ _ _ _ _ _ _
       rw [HTK.out, intVals_append, List.length_append]
       exact hown9
      clear hown9 hgr9 hnr9 HO8 HI8 HB8 hsz
      go_wp2
      go_roundg (gk - 1)
      case measure => have := HJ.out; have := HJT.out; omega
      case rel => exact ⟨j + 1, by have := HJ.out; have := HJT.out; omega, by go_num, HO9.out, HB9.out⟩
     ·generalize i.typ = it at *
      have hba : Below w7.heap.size w7 (w7.alloc (.cells #[.int .i64 it] 3)) := alloc_below _ _
      have HO8 := hid (HO7.out.alloc (.cells #[.int .i64 it] 3))
      have HI8 := hid (ints_one (w := w7.alloc (.cells #[.int .i64 it] 3)) (b := w7.heap.size) (n := it) (cell_new _ _ _ _ rfl) (size_new _ _ _ rfl))
      have HB8 := hid (HB7.out.trans (hba.mono HB7.out.size))
      have hsz : W.heap.size ≤ (w7.alloc (.cells #[.int .i64 it] 3)).heap.size := HB8.out.size
      clear hba HO7 HB7
      go_wp2_with (at_builtin; refine wpList_append_intsN rfl (.tmp 46) (.tmp 48) rfl W.heap.size (.slice la2 (upIn (upTo p.types x n) (insAt x.blocks n) j).length lc2) rfl _ (intVals (upIn (upTo p.types x n) (insAt x.blocks n) j)) HO8.out (by rw [HLN.out]; have := HUL2.out; have := HIL2.out; have := HJT.out; omega) (.slice (some ⟨w7.heap.size, 0, none⟩) 1 1) [it] rfl HI8.out (by simp) hsz ?_)
      intro v9 w9 hown9 hgr9 hnr9
      have HB9 := hid (own_grown HB8.out HO8.out hgr9 hsz)
      have HO9 : Hid (w9.ownsRow W.heap.size 3 1 v9 (upIn (upTo p.types x n) (insAt x.blocks n) (j + 1)).length (intVals (upIn (upTo p.types x n) (insAt x.blocks n) (j + 1)))) := by
       show World.ownsRow _ _ _ _ _ _ _
       rw [HTK.out, intVals_append, List.length_append]
       exact hown9
      clear hown9 hgr9 hnr9 HO8 HI8 HB8 hsz
      go_wp2
      go_roundg (gk - 1)
      case measure => have := HJ.out; have := HJT.out; omega
      case rel => exact ⟨j + 1, by have := HJ.out; have := HJT.out; omega, by go_num, HO9.out, HB9.out⟩
    ·obtain rfl : j = (insAt x.blocks n).length := by have := HJ.out; omega
     have HOX : Hid (wr.ownsRow W.heap.size 3 1 (.slice la2 (upIn (upTo p.types x n) (insAt x.blocks n) (insAt x.blocks n).length).length lc2) (upTo p.types x (n + 1)).length (intVals (upTo p.types x (n + 1)))) := by
      show World.ownsRow _ _ _ _ _ _ _
      have := HOWI.out
      rw [upIn_all, ← HNX2.out] at this
      rw [upIn_all, ← HNX2.out]
      exact this
     clear hjt HOWI
     go_wp2
     go_roundg (gko - 1)
     case measure => have := HN.out; have := HNT.out; omega
     case rel => exact ⟨n + 1, by have := HN.out; have := HNT.out; omega, by go_num, HOX.out, hAi⟩
  ·obtain rfl : n = x.blocks.length := by have := HN.out; omega
   clear hnt
   go_wp2
   go_ret
   refine ⟨.slice la (upTo p.types x x.blocks.length).length lc, (upTo p.types x x.blocks.length).length, rfl, ?_, hA.out HBW.out⟩
   rw [← HALL.out]
   exact owns_base HOWN.out HBW.out.size
end Go.Proofs.YtpejpnffcepdlaaGreatDoor.SzT
namespace Go.Proofs.YtpejpnffcepdlaaGreatDoor.SzX
open Go.RowKit Go.Lib SetP IntO TyM TyP TyB TyC TyQ ShM ShP ShA ShB ShC ShE ShH ShI ShJ ShW Aft FwM FwP FwQ FdM FdQ IntG BlkG LvM LuM SoM SvQ SvP SwA SwPh SzM SzE SzB SzC SzS SzF SzG RgZ

variable (b : Nat) (p : Px) (k : Nat) (x : Fx) (fl rl : List Int)
theorem fits_calls (i : Ix) (aa fa la : Option Addr) (an ac fn fc ln lc : Nat) (l : List Int) (w : World) (hb : BdAt w b p k x fl rl) (hx : FitOk p i l) (hl : IntsAt w (.slice la ln lc) l) (h1 : 1 ≤ i.op) (h2 : i.op ≤ 22) :
  Calls Tryz.prog 164 #[.pointer (some ⟨b, 0, none⟩), ixV i (.slice aa an ac) (.slice fa fn fc), .slice la ln lc] w (BoolR (typedB p i l) w) := by
 have hc : i.op = 1 ∨ i.op = 2 ∨ i.op = 3 ∨ i.op = 4 ∨ i.op = 5 ∨ i.op = 6 ∨ i.op = 7 ∨ i.op = 8 ∨ i.op = 9 ∨ i.op = 10 ∨ i.op = 11 ∨ i.op = 12 ∨ i.op = 13 ∨ i.op = 14 ∨ i.op = 15 ∨ i.op = 16 ∨ i.op = 17 ∨ i.op = 18 ∨ i.op = 19 ∨ i.op = 20 ∨ i.op = 21 ∨ i.op = 22 := by omega
 rcases hc with h | h | h | h | h | h | h | h | h | h | h | h | h | h | h | h | h | h | h | h | h | h
 ·exact fits_int1 b p k x fl rl i aa fa la an ac fn fc ln lc l w hb hx hl h
 ·exact fits_null b p k x fl rl i aa fa la an ac fn fc ln lc l w hb hx hl h
 ·exact fits_fn b p k x fl rl i aa fa la an ac fn fc ln lc l w hb hx hl h
 ·exact fits_arith4 b p k x fl rl i aa fa la an ac fn fc ln lc l w hb hx hl h
 ·exact fits_arith5 b p k x fl rl i aa fa la an ac fn fc ln lc l w hb hx hl h
 ·exact fits_arith6 b p k x fl rl i aa fa la an ac fn fc ln lc l w hb hx hl h
 ·exact fits_arith7 b p k x fl rl i aa fa la an ac fn fc ln lc l w hb hx hl h
 ·exact fits_arith8 b p k x fl rl i aa fa la an ac fn fc ln lc l w hb hx hl h
 ·exact fits_arith9 b p k x fl rl i aa fa la an ac fn fc ln lc l w hb hx hl h
 ·exact fits_same b p k x fl rl i aa fa la an ac fn fc ln lc l w hb hx hl h
 ·exact fits_ptr11 b p k x fl rl i aa fa la an ac fn fc ln lc l w hb hx hl h
 ·exact fits_ptr12 b p k x fl rl i aa fa la an ac fn fc ln lc l w hb hx hl h
 ·exact fits_free b p k x fl rl i aa fa la an ac fn fc ln lc l w hb hx hl h
 ·exact fits_field b p k x fl rl i aa fa la an ac fn fc ln lc l w hb hx hl h
 ·exact fits_elem b p k x fl rl i aa fa la an ac fn fc ln lc l w hb hx hl h
 ·exact fits_load b p k x fl rl i aa fa la an ac fn fc ln lc l w hb hx hl h
 ·exact fits_store b p k x fl rl i aa fa la an ac fn fc ln lc l w hb hx hl h
 ·exact fits_call b p k x fl rl i aa fa la an ac fn fc ln lc l w hb hx hl h
 ·exact fits_icall b p k x fl rl i aa fa la an ac fn fc ln lc l w hb hx hl h
 ·exact fits_int20 b p k x fl rl i aa fa la an ac fn fc ln lc l w hb hx hl h
 ·exact fits_print b p k x fl rl i aa fa la an ac fn fc ln lc l w hb hx hl h
 ·exact fits_phi b p k x fl rl i aa fa la an ac fn fc ln lc l w hb hx hl h

/-! end -/
/-- may a register be read by a block's end? -/
def okE (p : Px) (f : Fx) (bk : Nat) (u : Int) : Bool := (isSetL (parOf p.types f.sig) f.blocks u (bk : Nat) ((insAt f.blocks bk).length : Nat) && decide (0 ≤ typeI p.types f u)) &&
 (if (endAt f.blocks bk).kind = 2 then isK p.types (typeI p.types f u) 1 else if (endAt f.blocks bk).kind = 3 then decide (typeI p.types f u = (tyN p.types f.sig).elem) else true)
def endC (p : Px) (f : Fx) (bk : Nat) : Bool := (endsOf (endAt f.blocks bk)).all (okE p f bk)
theorem ends_few (x : Ex) : (endsOf x).length ≤ 1 := by unfold endsOf; split <;> simp
set_option maxRecDepth 100000 in
set_option maxHeartbeats 16000000 in
theorem end_calls (bk : Nat) (w : World) (hb : BdAt w b p k x fl rl) (ho : BdOk p x fl rl) (htab : Tab w) (hbk : bk < x.blocks.length) :
  Calls Tryz.prog 165 #[.pointer (some ⟨b, 0, none⟩), .int .i64 (bk : Int)] w (ErrR (endC p x bk) w) := by
 have hR := regs_of ho.chk ho.ok ho.mem
 have hbm : x.blocks[bk] ∈ x.blocks := List.getElem_mem hbk
 have eE : endAt x.blocks bk = x.blocks[bk].en := by unfold endAt; rw [List.getElem?_eq_getElem hbk]; rfl
 have hop : 0 ≤ (endAt x.blocks bk).kind ∧ (endAt x.blocks bk).kind ≤ 255 := by rw [eE]; exact (ho.ok x ho.mem _ hbm).1
 have hur : ∀ r ∈ endsOf (endAt x.blocks bk), 0 ≤ r ∧ r < ((parOf p.types x.sig + manyB x.blocks : Nat) : Int) := by rw [eE]; exact hR.ends _ hbm
 have hef := ends_few (endAt x.blocks bk)
 have hsig := sig_ok ho.chk ho.mem
 obtain ⟨sn, hsn⟩ : ∃ sn : Nat, x.sig = sn := ⟨x.sig.toNat, by have := (isK_at hsig).1; omega⟩
 have hsl : sn < p.types.length := by have := isK_low hsig (by decide); rw [hsn] at this; omega
 obtain ⟨ba, bc, ra, rc, ta, tc, fa, fc, ga, gc, ua, uc, k0, hbl, _, ht, _, _, _⟩ := id hb
 obtain ⟨gb, goff, xa, xc, rfl, z0, _, z1, z2, z3, z4⟩ := blk_ins hbl hbk
 obtain ⟨tg, toff, _, _, rfl, _, te, _⟩ := ty_later ht sn hsl
 obtain ⟨W, hW⟩ : ∃ W, W = w.alloc (.cells #[.int .u8 (endAt x.blocks bk).kind, .int .i64 (endAt x.blocks bk).a, .int .i64 (endAt x.blocks bk).to, .int .i64 (endAt x.blocks bk).els] 35) := ⟨_, rfl⟩
 have hbW : Below w.heap.size w W := by rw [hW]; exact alloc_below _ _
 have haW : Aft w W := hbW
 have k1 : W.heap[w.heap.size]? = some (.cells #[.int .u8 (endAt x.blocks bk).kind, .int .i64 (endAt x.blocks bk).a, .int .i64 (endAt x.blocks bk).to, .int .i64 (endAt x.blocks bk).els] 35 (0, 0)) := by rw [hW]; exact ShB.alloc_new _ _
 have e0 : ∀ w', Aft W w' → w'.cell? ⟨w.heap.size, 0, none⟩ = some (.int .u8 (endAt x.blocks bk).kind) := later_cells k1 0 _ rfl
 have v0 : ∀ w', Aft W w' → w'.cell? ⟨b, 0, none⟩ = some (.int .i64 x.sig) := fun w' h => later_cells k0 0 _ rfl w' (haW.trans h)
 have v1 : ∀ w', Aft W w' → w'.cell? ⟨b, 1, none⟩ = some (.slice (some ⟨gb, goff, none⟩) x.blocks.length bc) := fun w' h => later_cells k0 1 _ rfl w' (haW.trans h)
 have v3 : ∀ w', Aft W w' → w'.cell? ⟨b, 3, none⟩ = some (.slice (some ⟨tg, toff, none⟩) p.types.length tc) := fun w' h => later_cells k0 3 _ rfl w' (haW.trans h)
 have y0 : ∀ w', Aft W w' → _ := fun w' h => z0 w' (haW.trans h)
 have y1 : ∀ w', Aft W w' → _ := fun w' h => te w' (haW.trans h)
 have c1 := later_cells k0 1 _ rfl w (Aft.refl w)
 have c2 := z1 w (Aft.refl w)
 have c3 := z2 w (Aft.refl w)
 have c4 := z3 w (Aft.refl w)
 have c5 := z4 w (Aft.refl w)
 have hbki : (bk : Int) < (x.blocks.length : Int) := by omega
 have hsni : (sn : Int) < (p.types.length : Int) := by omega
 have HEN := hid (show Calls Tryz.prog 89 #[.agg #[.int .u8 (endAt x.blocks bk).kind, .int .i64 (endAt x.blocks bk).a, .int .i64 (endAt x.blocks bk).to, .int .i64 (endAt x.blocks bk).els]] W (OwnI (endsOf (endAt x.blocks bk)) W) from ShW.ends_calls (endAt x.blocks bk) W hop.1 hop.2 (htab.on hbW))
 have hbW2 := hb.below hbW
 have HRD := hid (fun (r : Nat) (wx : World) (hax : Aft W wx) (hr : r < parOf p.types x.sig + manyB x.blocks) => read_calls b p k x fl rl r bk (insAt x.blocks bk).length wx (hbW2.on hax) ho hr hbk (Nat.le_refl _))
 have HTY := hid (fun (r : Nat) (hr : r < parOf p.types x.sig + manyB x.blocks) => type_neg ho.chk ho.ok ho.mem hr)
 have HIS := hid (fun (n : Int) (hn : 0 ≤ n ∧ n < p.types.length) (wx : World) (ha : Aft W wx) => show Calls Tryz.prog 195 #[.pointer (some ⟨b, 0, none⟩), .int .u8 1, .slice (some ⟨wx.heap.size, 0, none⟩) 1 1] (wx.alloc (.cells #[.int .i64 n] 3)).drew (BoolR (isK p.types n 1) wx.drew) from are1_calls b p k x fl rl 1 n wx.drew (hbW2.on ha.drew) hn)
 have HUS := hid hur
 have HER := hid (fun (s : ByteArray) (r : Int) (wx : World) => in_calls s r _ wx (bad_form wx))
 have HAL := hid (fun (h : AllG (okE p x bk) (endsOf (endAt x.blocks bk)) (endsOf (endAt x.blocks bk)).length) => show endC p x bk = true from allG_all h)
 have HNO := hid (fun n u (hu : (endsOf (endAt x.blocks bk))[n]? = some u) hn => show endC p x bk = false from allG_not (q := okE p x bk) hu hn)
 have HEF := hid hef
 have HW := hid hW
 have HBW := hid hbW
 have h0 := Aft.refl W
 have HKD : Hid (∀ n, n < (endsOf (endAt x.blocks bk)).length → (endAt x.blocks bk).kind = 2 ∨ (endAt x.blocks bk).kind = 3) := fun n hn => by
  unfold endsOf at hn
  split at hn
  ·assumption
  ·simp at hn
 have HOK := hid (fun u => show okE p x bk u = ((isSetL (parOf p.types x.sig) x.blocks u (bk : Nat) ((insAt x.blocks bk).length : Nat) && decide (0 ≤ typeI p.types x u)) && (if (endAt x.blocks bk).kind = 2 then isK p.types (typeI p.types x u) 1 else if (endAt x.blocks bk).kind = 3 then decide (typeI p.types x u = (tyN p.types (sn : Int)).elem) else true)) by unfold okE; rw [hsn])
 clear ho htab hW hbW hbW2 k0 k1 hbl ht hR eE hop hur hef hsig hsl z0 z1 z2 z3 z4 te hbm hb
 generalize endC p x bk = ans at *
 generalize (endAt x.blocks bk).kind = ek at *
 rw [hsn] at v0
 go_enter Tryz.func165, Tryz.ntmps165
 go_wp2_with fail
 rw [← HW.out]
 refine HEN.out.mono ?_
 rintro e w1 ⟨u0, m0, rfl, hown, hb1⟩
 have hints := intsAt_of_owns hown (by have := HEF.out; omega)
 obtain ⟨la, lc, rfl, _⟩ := ints_slice hints
 have h1 := h0.go hb1
 have HI := hid hints
 clear hown hb1 hints HEN
 go_wp2_with fail
 go_loopg [22] (endsOf (endAt x.blocks bk)).length (fun gk iv wr => ∃ n : Nat, n + gk = (endsOf (endAt x.blocks bk)).length ∧ iv = .int .i64 n ∧ AllG (okE p x bk) (endsOf (endAt x.blocks bk)) n ∧ Aft w1 wr)
 case atStart => exact ⟨0, by omega, rfl, fun i u hi => absurd hi (by omega), Aft.refl w1⟩
 case round =>
  obtain ⟨n, hn, rfl, hall, hA1⟩ := hrel
  have HN := hid hn
  have HALL := hid hall
  have hA : Aft W wr := h1.trans hA1
  have HI1 := hid (HI.out.below hA1.below)
  have HA1 := hid hA1
  clear hn hall hA1
  by_cases hnt : n < (endsOf (endAt x.blocks bk)).length
  ·have HNT := hid hnt
   obtain ⟨u, hu⟩ := some_at hnt
   obtain ⟨b2, o2, rfl, d2⟩ := int_at HI1.out hu
   have hu2 := HUS.out u (List.mem_of_getElem? hu)
   obtain ⟨r, rfl⟩ : ∃ r : Nat, u = r := ⟨u.toNat, by omega⟩
   have HRR := hid (HRD.out r wr hA (by omega))
   have hty := HTY.out r (by omega)
   have HNX := hid (fun hh => allG_next HALL.out hu hh)
   have HN2 := hid (fun hh => HNO.out n _ hu hh)
   have HO2 := hid (HOK.out (r : Int))
   have hnl : (n : Int) < ((endsOf (endAt x.blocks bk)).length : Int) := by omega
   have hnb : n ≤ 9223372036854775806 := by have := HEF.out; omega
   have hkd := HKD.out n hnt
   have yy0 := y0 wr hA
   have vv1 := v1 wr hA
   clear hu hnt hu2 HRD HTY HNO HUS HOK HKD
   generalize okE p x bk r = ok at *
   generalize isSetL (parOf p.types x.sig) x.blocks r (bk : Nat) ((insAt x.blocks bk).length : Nat) = st at *
   generalize typeI p.types x r = ty at *
   go_wp2_with fail
   refine HRR.out.mono ?_
   rintro e w3 ⟨m3, v3', rfl, hm3, hv3, hb3⟩
   have h3 := hA.go hb3
   clear HRR yy0 vv1
   cases hq : (st && decide (0 ≤ ty)) with
   | false =>
    rw [hq] at hv3 HO2
    rw [Bool.false_and] at HO2
    have HX := hid (HN2.out HO2.out)
    have HV3 := hid hv3
    obtain ⟨t1, u1, rfl⟩ := hv3.no.iface
    clear hv3 hm3 hb3 hq
    go_wp2
    go_ret
    exact ⟨_, rfl, by rw [HX.out]; exact HV3.out, h3.out HBW.out⟩
   | true =>
    rw [hq] at hv3 HO2 hm3
    rw [Bool.true_and] at HO2
    obtain rfl := hv3.yes
    obtain rfl := hm3 rfl
    have hty2 : 0 ≤ m3 ∧ m3 < p.types.length := by
     rw [Bool.and_eq_true] at hq
     have := of_decide_eq_true hq.2
     omega
    have HA3 := hid (HA1.out.go hb3)
    have hd := h3.drew
    clear hv3 hm3 hb3 hq hty
    have HIS := hid (HIS.out m3 hty2 w3 h3)
    rcases hkd with hk | hk
    ·subst hk
     rw [if_pos rfl] at HO2
     clear hty2
     generalize isK p.types m3 1 = q at *
     go_upto_region 8 with fail
     have hHD := hid HA3.out
     cases q with
     | false =>
      have HX := hid (HN2.out HO2.out)
      refine wp_region_noPanic ?_
      refine wp_region_Z (S := (fun w' => Aft W w')) (Z := []) (by kernel_rfl) ?_ (fun hHeld => ?_)
      ·(try dsimp only)
       (exact hd)
      refine zP 0 rfl ?_
      refine zT 1 rfl ?_
      refine zP 2 rfl ?_
      refine zP 3 rfl ?_
      refine zP 4 rfl ?_
      refine zP 5 rfl ?_
      refine zC 6 rfl (fun K hK => ?_)
      go_simp
      refine hK.out _ _ ?_ (fun hHeld => ?_)
      ·(try dsimp only)
       (exact hd.alloc _)
      clear hK K
      refine zC 7 rfl (fun K hK => ?_)
      go_simp
      (with_reducible refine HIS.out.mono ?_)
      rintro e w4 ⟨rfl, hb4⟩
      refine hK.out _ _ ?_ (fun hHeld => ?_)
      ·(try dsimp only)
       (exact hd.go hb4)
      clear hK K
      refine zC 8 rfl (fun K hK => ?_)
      go_simp
      refine hK.out _ _ ?_ (fun hHeld => ?_)
      ·(try dsimp only)
       (exact hd.go hb4)
      clear hK K
      refine zC 9 rfl (fun K hK => ?_)
      go_simp
      refine hK.out _ _ ?_ (fun hHeld => ?_)
      ·(try dsimp only)
       (exact hd.go hb4)
      clear hK K
      refine zP 10 rfl ?_
      refine zU 11 rfl ?_
      refine zU 12 rfl ?_
      refine zU 13 rfl ?_
      refine zU 14 rfl ?_
      refine zU 15 rfl ?_
      refine zU 16 rfl ?_
      refine zU 17 rfl ?_
      refine zU 18 rfl ?_
      refine zU 19 rfl ?_
      refine zU 20 rfl ?_
      refine zU 21 rfl ?_
      refine zU 22 rfl ?_
      refine zU 23 rfl ?_
      refine zU 24 rfl ?_
      refine zU 25 rfl ?_
      refine zU 26 rfl ?_
      refine zU 27 rfl ?_
      refine zU 28 rfl ?_
      refine zU 29 rfl ?_
      refine zU 30 rfl ?_
      refine zC 31 rfl (fun K hK => ?_)
      go_simp
      refine hK.out _ _ ?_ (fun hHeld => ?_)
      ·(try dsimp only)
       (exact hd.go hb4)
      clear hK K
      try simp only [Act.put, List.setIfInBounds_toArray, List.set_cons_zero, List.set_cons_succ]
      refine wpAnyZ_done (by kernel_rfl) ?_ _
      refine NoPanic.normal ?_
      go_wp2_with fail
      refine (HER.out _ _ _).mono ?_
      rintro e w5 ⟨v5, rfl, hv5, hb5⟩
      have HV5 := hid hv5
      obtain ⟨t5, u5, rfl⟩ := hv5.no.iface
      have h5 := (hd.go hb4).go hb5
      clear hv5 hb5
      go_wp2
      go_ret
      exact ⟨_, rfl, by rw [HX.out]; exact HV5.out, h5.out HBW.out⟩
     | true =>
      have HX := hid (HNX.out HO2.out)
      refine wp_region_noPanic ?_
      refine wp_region_Z (S := (fun w' => Aft W w')) (Z := []) (by kernel_rfl) ?_ (fun hHeld => ?_)
      ·(try dsimp only)
       (exact hd)
      refine zP 0 rfl ?_
      refine zT 1 rfl ?_
      refine zP 2 rfl ?_
      refine zP 3 rfl ?_
      refine zP 4 rfl ?_
      refine zP 5 rfl ?_
      refine zC 6 rfl (fun K hK => ?_)
      go_simp
      refine hK.out _ _ ?_ (fun hHeld => ?_)
      ·(try dsimp only)
       (exact hd.alloc _)
      clear hK K
      refine zC 7 rfl (fun K hK => ?_)
      go_simp
      (with_reducible refine HIS.out.mono ?_)
      rintro e w4 ⟨rfl, hb4⟩
      refine hK.out _ _ ?_ (fun hHeld => ?_)
      ·(try dsimp only)
       (exact hd.go hb4)
      clear hK K
      refine zC 8 rfl (fun K hK => ?_)
      go_simp
      refine hK.out _ _ ?_ (fun hHeld => ?_)
      ·(try dsimp only)
       (exact hd.go hb4)
      clear hK K
      refine zC 9 rfl (fun K hK => ?_)
      go_simp
      refine hK.out _ _ ?_ (fun hHeld => ?_)
      ·(try dsimp only)
       (exact hd.go hb4)
      clear hK K
      refine zP 10 rfl ?_
      refine zP 11 rfl ?_
      refine zT 12 rfl ?_
      refine zP 13 rfl ?_
      refine zP 14 rfl ?_
      refine zU 15 rfl ?_
      refine zU 16 rfl ?_
      refine zU 17 rfl ?_
      refine zU 18 rfl ?_
      refine zU 19 rfl ?_
      refine zU 20 rfl ?_
      refine zU 21 rfl ?_
      refine zU 22 rfl ?_
      refine zU 23 rfl ?_
      refine zU 24 rfl ?_
      refine zU 25 rfl ?_
      refine zU 26 rfl ?_
      refine zU 27 rfl ?_
      refine zU 28 rfl ?_
      refine zU 29 rfl ?_
      refine zC 30 rfl (fun K hK => ?_)
      go_simp
      refine hK.out _ _ ?_ (fun hHeld => ?_)
      ·(try dsimp only)
       (exact hd.go hb4)
      clear hK K
      refine zC 31 rfl (fun K hK => ?_)
      go_simp
      refine hK.out _ _ ?_ (fun hHeld => ?_)
      ·(try dsimp only)
       (exact hd.go hb4)
      clear hK K
      try simp only [Act.put, List.setIfInBounds_toArray, List.set_cons_zero, List.set_cons_succ]
      refine wpAnyZ_done (by kernel_rfl) ?_ _
      refine NoPanic.normal ?_
      go_wp2
      go_roundg (gk - 1)
      case measure => have := HN.out; have := HNT.out; omega
      case rel => exact ⟨n + 1, by have := HN.out; have := HNT.out; omega, by go_num, HX.out, (HA3.out.drew).go hb4⟩
    ·subst hk
     rw [if_neg (by decide), if_pos rfl] at HO2
     clear hty2 HIS
     generalize hte : (tyN p.types (sn : Int)).elem = tel at *
     go_upto_region 8 with fail
     by_cases hcmp : m3 = tel
     ·have hnq : (m3 != tel) = false := by rw [bne_eq_false_iff_eq]; exact hcmp
      rw [decide_eq_true hcmp] at HO2
      have HX := hid (HNX.out HO2.out)
      clear hcmp hte
      refine wp_region_noPanic ?_
      refine wp_region_Z (S := (fun w' => Aft W w')) (Z := []) (by kernel_rfl) ?_ (fun hHeld => ?_)
      ·(try dsimp only)
       (exact hd)
      refine zP 0 rfl ?_
      refine zT 1 rfl ?_
      refine zP 2 rfl ?_
      refine zP 3 rfl ?_
      refine zU 4 rfl ?_
      refine zU 5 rfl ?_
      refine zU 6 rfl ?_
      refine zU 7 rfl ?_
      refine zU 8 rfl ?_
      refine zC 9 rfl (fun K hK => ?_)
      go_simp
      refine hK.out _ _ ?_ (fun hHeld => ?_)
      ·(try dsimp only)
       (exact hd)
      clear hK K
      refine zP 10 rfl ?_
      refine zP 11 rfl ?_
      refine zT 12 rfl ?_
      refine zP 13 rfl ?_
      refine zP 14 rfl ?_
      refine zP 15 rfl ?_
      refine zP 16 rfl ?_
      refine zP 17 rfl ?_
      refine zP 18 rfl ?_
      refine zP 19 rfl ?_
      refine zT 20 rfl ?_
      refine zP 21 rfl ?_
      refine zP 22 rfl ?_
      refine zP 23 rfl ?_
      refine zP 24 rfl ?_
      refine zT 25 rfl ?_
      refine zP 26 rfl ?_
      refine zP 27 rfl ?_
      refine zT 28 rfl ?_
      refine zP 29 rfl ?_
      refine zC 30 rfl (fun K hK => ?_)
      go_simp
      refine hK.out _ _ ?_ (fun hHeld => ?_)
      ·(try dsimp only)
       (exact hd)
      clear hK K
      refine zC 31 rfl (fun K hK => ?_)
      go_simp
      refine hK.out _ _ ?_ (fun hHeld => ?_)
      ·(try dsimp only)
       (exact hd)
      clear hK K
      try simp only [Act.put, List.setIfInBounds_toArray, List.set_cons_zero, List.set_cons_succ]
      refine wpAnyZ_done (by kernel_rfl) ?_ _
      refine NoPanic.normal ?_
      go_wp2
      go_roundg (gk - 1)
      case measure => have := HN.out; have := HNT.out; omega
      case rel => exact ⟨n + 1, by have := HN.out; have := HNT.out; omega, by go_num, HX.out, HA3.out.drew⟩
     ·have hnq : (m3 != tel) = true := by rw [bne_iff_ne]; exact hcmp
      rw [decide_eq_false hcmp] at HO2
      have HX := hid (HN2.out HO2.out)
      clear hcmp hte
      refine wp_region_noPanic ?_
      refine wp_region_Z (S := (fun w' => Aft W w')) (Z := []) (by kernel_rfl) ?_ (fun hHeld => ?_)
      ·(try dsimp only)
       (exact hd)
      refine zP 0 rfl ?_
      refine zT 1 rfl ?_
      refine zP 2 rfl ?_
      refine zP 3 rfl ?_
      refine zU 4 rfl ?_
      refine zU 5 rfl ?_
      refine zU 6 rfl ?_
      refine zU 7 rfl ?_
      refine zU 8 rfl ?_
      refine zC 9 rfl (fun K hK => ?_)
      go_simp
      refine hK.out _ _ ?_ (fun hHeld => ?_)
      ·(try dsimp only)
       (exact hd)
      clear hK K
      refine zP 10 rfl ?_
      refine zP 11 rfl ?_
      refine zT 12 rfl ?_
      refine zP 13 rfl ?_
      refine zP 14 rfl ?_
      refine zP 15 rfl ?_
      refine zP 16 rfl ?_
      refine zP 17 rfl ?_
      refine zP 18 rfl ?_
      refine zP 19 rfl ?_
      refine zT 20 rfl ?_
      refine zP 21 rfl ?_
      refine zP 22 rfl ?_
      refine zP 23 rfl ?_
      refine zP 24 rfl ?_
      refine zT 25 rfl ?_
      refine zP 26 rfl ?_
      refine zP 27 rfl ?_
      refine zT 28 rfl ?_
      refine zP 29 rfl ?_
      refine zC 30 rfl (fun K hK => ?_)
      go_simp
      refine hK.out _ _ ?_ (fun hHeld => ?_)
      ·(try dsimp only)
       (exact hd)
      clear hK K
      refine zC 31 rfl (fun K hK => ?_)
      go_simp
      refine hK.out _ _ ?_ (fun hHeld => ?_)
      ·(try dsimp only)
       (exact hd)
      clear hK K
      try simp only [Act.put, List.setIfInBounds_toArray, List.set_cons_zero, List.set_cons_succ]
      refine wpAnyZ_done (by kernel_rfl) ?_ _
      refine NoPanic.normal ?_
      go_wp2_with fail
      refine (HER.out _ _ _).mono ?_
      rintro e w5 ⟨v5, rfl, hv5, hb5⟩
      have HV5 := hid hv5
      obtain ⟨t5, u5, rfl⟩ := hv5.no.iface
      have h5 := (hd).go hb5
      clear hv5 hb5
      go_wp2
      go_ret
      exact ⟨_, rfl, by rw [HX.out]; exact HV5.out, h5.out HBW.out⟩
  ·obtain rfl : n = (endsOf (endAt x.blocks bk)).length := by have := HN.out; omega
   have HX := hid (HAL.out HALL.out)
   clear HALL hnt
   go_wp2
   go_ret
   exact ⟨_, rfl, by rw [HX.out]; rfl, hA.out HBW.out⟩
end Go.Proofs.YtpejpnffcepdlaaGreatDoor.SzX
namespace Go.Proofs.YtpejpnffcepdlaaGreatDoor.SzY
open Go.RowKit Go.Lib SetP IntO TyM TyP TyB TyC TyQ ShM ShP ShA ShB ShC ShE ShH ShI ShJ ShW Aft FwM FwP FwQ FwR FwK FdM FdQ IntG BlkG LvM LuM SoM SvQ SvP SwA SwPh SzM SzE SzB SzC SzS SzF SzG SzR SzX

/-- does a phi stand where it may, and come of the blocks that go to its own? -/
def phC (l : List Bx) (bk at_ : Nat) (i : Ix) : Bool := decide (at_ = 0 ∨ (insOf l bk (at_ - 1)).op = 22) && decide (i.frm = ints (aheadL l bk))
def okJ (p : Px) (f : Fx) (bk at_ : Nat) (i : Ix) : Bool := (if i.op = 22 then phC f.blocks bk at_ i else true) && (readsB p.types f i bk at_ && typedB p i ((usesOf i).map (typeI p.types f)))
def okI (p : Px) (f : Fx) (bk at_ : Nat) : Bool := okJ p f bk at_ (insOf f.blocks bk at_)
def insC (p : Px) (f : Fx) (bk : Nat) : Bool := (List.range (insAt f.blocks bk).length).all (okI p f bk)
def blockC (p : Px) (f : Fx) (bk : Nat) : Bool := insC p f bk && endC p f bk
theorem ins_yes {p : Px} {f : Fx} {bk : Nat} (h : ∀ i, i < (insAt f.blocks bk).length → okI p f bk i = true) : insC p f bk = true := by
 unfold insC
 exact List.all_eq_true.2 fun i hi => h i (List.mem_range.1 hi)
theorem ins_no {p : Px} {f : Fx} {bk i : Nat} (hi : i < (insAt f.blocks bk).length) (h : okI p f bk i = false) : insC p f bk = false := by
 cases e : insC p f bk with
 | false => rfl
 | true =>
  unfold insC at e
  have := List.all_eq_true.1 e i (List.mem_range.2 hi)
  rw [h] at this
  cases this
theorem find_ok {p : Px} (hc : chkP p = 0) {n : Int} (h : 0 ≤ n ∧ n < p.funcs.length) : findP p n = 0 := by
 unfold findP
 rw [if_neg (fun e => e hc), if_pos h]

variable (b : Nat) (p : Px) (k : Nat) (x : Fx) (fl rl : List Int)
/-- what reads answers serves fits -/
theorem fit_of (ho : BdOk p x fl rl) {bk at_ : Nat} {i : Ix} (hbk : bk < x.blocks.length) (hi : (insAt x.blocks bk)[at_]? = some i) : InsOk p.types.length p.funcs.length x.blocks.length (parOf p.types x.sig + manyB x.blocks) i ∧ (readsB p.types x i bk at_ = true → FitOk p i ((usesOf i).map (typeI p.types x))) := by
 obtain ⟨c, hc, him⟩ := insAt_mem hi hbk
 have hk := ins_ok ho.chk ho.ok ho.mem hc him
 refine ⟨hk, fun hr => ⟨ho.chk, hk.typ, hk.n, ins_field ho.chk ho.ok ho.mem hc him, by rw [List.length_map], fun m hm => ?_⟩⟩
 obtain ⟨r, hrm, rfl⟩ := List.mem_map.1 hm
 obtain ⟨n, hn, e⟩ := List.getElem_of_mem hrm
 have hq := List.all_eq_true.1 hr n (List.mem_range.2 hn)
 have hu : (usesOf i)[n]? = some r := by rw [List.getElem?_eq_getElem hn, e]
 rw [okAt_eq hu] at hq
 unfold okR at hq
 rw [Bool.and_eq_true] at hq
 have h0 := of_decide_eq_true hq.2
 have hrr := hk.uses r hrm
 obtain ⟨q, rfl⟩ : ∃ q : Nat, r = q := ⟨r.toNat, by omega⟩
 have := type_neg ho.chk ho.ok ho.mem (r := q) (by omega)
 omega
set_option maxRecDepth 100000 in
set_option maxHeartbeats 16000000 in
theorem block_calls (CP : PredsC) (bk : Nat) (w : World) (hb : BdAt w b p k x fl rl) (ho : BdOk p x fl rl) (hk : p.funcs[k]? = some x) (htab : Tab w) (hbk : bk < x.blocks.length) :
  Calls Tryz.prog 117 #[.pointer (some ⟨b, 0, none⟩), .int .i64 (bk : Int)] w (ErrR (blockC p x bk) w) := by
 have hkl := (List.getElem?_eq_some_iff.1 hk).1
 have hfind : findP p (k : Int) = 0 := find_ok ho.chk ⟨by omega, by omega⟩
 have hblk : blsP p (k : Int) = x.blocks := by unfold blsP; rw [Int.toNat_natCast, hk]; rfl
 have hask : askB p (k : Int) (bk : Int) = 0 := ask_yes hfind (by omega) (by rw [hblk]; omega)
 have hpre : predsA p (k : Int) (bk : Int) = ints (aheadL x.blocks bk) := by unfold predsA; rw [if_pos hask, hblk, Int.toNat_natCast]
 have hfl := ho.small.funcs
 have hbl16 := (low_of ho.chk ho.ok ho.mem).2.2
 obtain ⟨ba, bc, ra, rc, ta, tc, fa, fc, ga, gc, ua, uc, k0, hbl, _, ht, hfs, _, _⟩ := id hb
 have HCP := hid (fun (wx : World) (ha : Aft w wx) => CP p (k : Int) (bk : Int) (.agg #[.slice ta p.types.length tc, .slice fa p.funcs.length fc]) wx ⟨_, _, rfl, ht.below ha.below, hfs.below fnStays ha.below⟩ (htab.on ha.below) ho.small ho.ok ⟨by omega, by omega⟩ ⟨by omega, by omega⟩)
 rw [hask, hpre] at HCP
 obtain ⟨gb, goff, xa, xc, rfl, z0, hins, _, _, _, _⟩ := blk_ins hbl hbk
 have c1 : ∀ w', Aft w w' → w'.cell? ⟨b, 1, none⟩ = some (.slice (some ⟨gb, goff, none⟩) x.blocks.length bc) := later_cells k0 1 _ rfl
 have c3 : ∀ w', Aft w w' → w'.cell? ⟨b, 3, none⟩ = some (.slice ta p.types.length tc) := later_cells k0 3 _ rfl
 have c4 : ∀ w', Aft w w' → w'.cell? ⟨b, 4, none⟩ = some (.slice fa p.funcs.length fc) := later_cells k0 4 _ rfl
 have c5 : ∀ w', Aft w w' → w'.cell? ⟨b, 5, none⟩ = some (.int .i64 (k : Int)) := later_cells k0 5 _ rfl
 have hbki : (bk : Int) < (x.blocks.length : Int) := by omega
 have HBD := hid hb
 have HTAB := hid htab
 have HO := hid ho
 have HBK := hid hbk
 have HINS := hid hins
 have HEN := hid (fun (wx : World) (ha : Aft w wx) => end_calls b p k x fl rl bk wx (hb.on ha) ho (htab.on ha.below) hbk)
 have HER := hid (fun (s : ByteArray) (r : Int) (wx : World) (v : Value) (hv : BadAt wx v) => in_calls s r v wx hv)
 have HYES := hid (fun h => ins_yes (p := p) (f := x) (bk := bk) h)
 have HNO := hid (fun i (hi : i < (insAt x.blocks bk).length) h => ins_no (p := p) (f := x) hi h)
 have HANS : Hid (blockC p x bk = (insC p x bk && endC p x bk)) := rfl
 have hlen128 : (insAt x.blocks bk).length ≤ 20000 := by
  have h1 := ho.small.many x ho.mem
  have h2 := first_next (par := 0) hbk
  have h3 := first_le (par := 0) (l := x.blocks) (k := bk + 1)
  omega
 have HLEN := hid hlen128
 have h0 := Aft.refl w
 have h0d := h0.drew
 clear hb ho hk htab hbk hkl hfind hblk hask hpre k0 hbl ht hfs hins hfl hbl16 hlen128
 generalize blockC p x bk = ans at *
 generalize insC p x bk = insq at *
 generalize endC p x bk = endq at *
 go_enter Tryz.func117, Tryz.ntmps117
 go_upto_region 1 with fail
 go_region_held3 (fun w' => Aft w w') (first | exact h0d.go hb1 | exact h0d)
  ((go_at_call 23; (with_reducible refine (HCP.out _ h0d).mono ?_); rintro e w1 ⟨up, rfl, hup, hb1⟩; obtain ⟨pa, pc, rfl, _⟩ := ints_slice hup.1))
 have h1 := h0d.go hb1
 have HPI := hid hup.1
 clear hb1 hup HCP
 have c1a := c1 w1 h1
 have z0a := z0 w1 h1
 clear c3 c4 c5
 generalize hnp : (ints (aheadL x.blocks bk)).length = np at *
 go_wp2_with fail
 go_loopg [36] (insAt x.blocks bk).length (fun gk iv wr => ∃ n : Nat, n + gk = (insAt x.blocks bk).length ∧ iv = .int .i64 n ∧ (∀ j, j < n → okI p x bk j = true) ∧ Aft w1 wr)
 case atStart => exact ⟨0, by omega, rfl, fun j hj => absurd hj (by omega), Aft.refl w1⟩
 case round =>
  obtain ⟨n, hn, rfl, hall, hA1⟩ := hrel
  have HN := hid hn
  have HALL := hid hall
  have hA : Aft w wr := h1.trans hA1
  have HA1 := hid hA1
  clear hn hall hA1 c1a z0a
  by_cases hnt : n < (insAt x.blocks bk).length
  ·have HNT := hid hnt
   obtain ⟨i, hi⟩ := some_at hnt
   obtain ⟨hx, hfit⟩ := fit_of p x fl rl HO.out HBK.out hi
   have hinsof : insOf x.blocks bk n = i := insOf_at hi
   have HOK : Hid (okI p x bk n = okJ p x bk n i) := by show _ = _; unfold okI; rw [hinsof]
   obtain ⟨ig, io, aa, ac, ffa, ffc, rfl, d0, d1, d2, d3, d4, d5, d6, hargs, hfrm⟩ := ins_later HINS.out hi
   obtain ⟨W, hW⟩ : ∃ W, W = wr.alloc (.cells #[.int .u8 i.op, .int .i64 i.typ, .int .i64 i.a, .int .i64 i.b, .int .i64 i.n, .slice aa i.args.length ac, .slice ffa i.frm.length ffc] 31) := ⟨_, rfl⟩
   have hbW : Below wr.heap.size wr W := by rw [hW]; exact alloc_below _ _
   have k1 : W.heap[wr.heap.size]? = some (.cells #[.int .u8 i.op, .int .i64 i.typ, .int .i64 i.a, .int .i64 i.b, .int .i64 i.n, .slice aa i.args.length ac, .slice ffa i.frm.length ffc] 31 (0, 0)) := by rw [hW]; exact ShB.alloc_new _ _
   have hAW : Aft w W := hA.go hbW
   have m0 : ∀ w', Aft W w' → w'.cell? ⟨wr.heap.size, 0, none⟩ = some (.int .u8 i.op) := later_cells k1 0 _ rfl
   have m1 : ∀ w', Aft W w' → w'.cell? ⟨wr.heap.size, 1, none⟩ = some (.int .i64 i.typ) := later_cells k1 1 _ rfl
   have m2 : ∀ w', Aft W w' → w'.cell? ⟨wr.heap.size, 2, none⟩ = some (.int .i64 i.a) := later_cells k1 2 _ rfl
   have m3 : ∀ w', Aft W w' → w'.cell? ⟨wr.heap.size, 3, none⟩ = some (.int .i64 i.b) := later_cells k1 3 _ rfl
   have m4 : ∀ w', Aft W w' → w'.cell? ⟨wr.heap.size, 4, none⟩ = some (.int .i64 i.n) := later_cells k1 4 _ rfl
   have m5 : ∀ w', Aft W w' → w'.cell? ⟨wr.heap.size, 5, none⟩ = some (.slice aa i.args.length ac) := later_cells k1 5 _ rfl
   have m6 : ∀ w', Aft W w' → w'.cell? ⟨wr.heap.size, 6, none⟩ = some (.slice ffa i.frm.length ffc) := later_cells k1 6 _ rfl
   have HRD := hid (fun (wx : World) (ha : Aft W wx) => show Calls Tryz.prog 163 #[.pointer (some ⟨b, 0, none⟩), .agg #[.int .u8 i.op, .int .i64 i.typ, .int .i64 i.a, .int .i64 i.b, .int .i64 i.n, .slice aa i.args.length ac, .slice ffa i.frm.length ffc], .int .i64 (bk : Int), .int .i64 (n : Int)] wx (ReadsR (readsB p.types x i bk n) ((usesOf i).map (typeI p.types x)) wx) from reads_calls b p k x fl rl i _ _ bk n wx (HBD.out.on (hAW.trans ha)) HO.out (HTAB.out.on (hAW.trans ha).below) hx (hargs wx (hAW.trans ha)) (hfrm wx (hAW.trans ha)) HBK.out (by omega))
   have HFT := hid (fun (hr : readsB p.types x i bk n = true) (la : Option Addr) (ln lc : Nat) (wx : World) (ha : Aft W wx) (hl : IntsAt wx (.slice la ln lc) ((usesOf i).map (typeI p.types x))) => show Calls Tryz.prog 164 #[.pointer (some ⟨b, 0, none⟩), .agg #[.int .u8 i.op, .int .i64 i.typ, .int .i64 i.a, .int .i64 i.b, .int .i64 i.n, .slice aa i.args.length ac, .slice ffa i.frm.length ffc], .slice la ln lc] wx (BoolR (typedB p i ((usesOf i).map (typeI p.types x))) wx) from fits_calls b p k x fl rl i aa ffa la i.args.length ac i.frm.length ffc ln lc _ wx (HBD.out.on (hAW.trans ha)) (hfit hr) hl hx.op1 hx.op2)
   have HEQ := hid (fun (wx : World) (ha : Aft W wx) => equal_calls (.slice ffa i.frm.length ffc) (.slice pa np pc) i.frm (ints (aheadL x.blocks bk)) wx (hfrm wx (hAW.trans ha)) (HPI.out.below ((HA1.out.go hbW).trans ha).below))
   have HNX := hid (HNO.out n hnt)
   have HAFT := hid (HA1.out.go hbW)
   have HBW : Hid (Below w.heap.size w W) := hAW.below
   have HAFTW : Hid (Aft wr W) := hbW
   have HW := hid hW
   have q0 := d0 wr hA; have q1 := d1 wr hA; have q2 := d2 wr hA; have q3 := d3 wr hA; have q4 := d4 wr hA; have q5 := d5 wr hA; have q6 := d6 wr hA
   have hnl : (n : Int) < ((insAt x.blocks bk).length : Int) := by omega
   have hnb : n ≤ 9223372036854775806 := by have := HLEN.out; omega
   have hJ : Hid (okJ p x bk n i = ((if i.op = 22 then phC x.blocks bk n i else true) && (readsB p.types x i bk n && typedB p i ((usesOf i).map (typeI p.types x))))) := rfl
   have HAL2 : Hid (okJ p x bk n i = true → ∀ j, j < n + 1 → okI p x bk j = true) := fun hj j hlt => by
    by_cases e : j = n
    ·subst e; rw [HOK.out]; exact hj
    ·exact HALL.out j (by omega)
   have hW0 := Aft.refl W
   rw [HOK.out] at HNX
   clear hi hx hfit hinsof d1 d2 d3 d4 d5 d6 hargs hfrm hW hbW k1 hAW hnt
   by_cases hphi : i.op = 22
   ·have hop : (i.op == 22) = true := by rw [beq_iff_eq]; exact hphi
    have HPQ := hid hphi
    clear hphi
    rcases Nat.eq_zero_or_pos n with hn0 | hn0
    ·have hng : ¬ (0 : Int) < (n : Int) := by omega
     have HPHI : Hid (n = 0 ∨ (insOf x.blocks bk (n - 1)).op = 22) := Or.inl hn0
     clear hn0 d0
     have p0 := m0 W hW0; have p6 := m6 W hW0
     rw [HW.out] at p0 p6
     go_wp2_with fail
     all_goals (try (exfalso; omega))
     rw [← HW.out]
     refine (HEQ.out _ hW0).mono ?_
     rintro e w4 ⟨rfl, hb4⟩
     have h4 := hW0.go hb4
     clear hb4 p0 p6
     cases hq4 : decide (i.frm = ints (aheadL x.blocks bk)) with
     | false =>
      have hjf : okJ p x bk n i = false := by rw [hJ.out, if_pos HPQ.out]; unfold phC; rw [hq4, Bool.and_false, Bool.false_and]
      have HANSF : Hid (ans = false) := by show _ = _; rw [HANS.out, HNX.out hjf]; rfl
      clear hjf
      go_wp2_with fail
      refine (HER.out _ _ w4 _ (bad_form w4)).mono ?_
      rintro e w9 ⟨v9, rfl, hv9, hb9⟩
      have h9 := (h4).go hb9
      have HV9 := hid hv9
      obtain ⟨t9, u9, rfl⟩ := hv9.no.iface
      clear hv9 hb9
      go_wp2
      go_ret
      exact ⟨_, rfl, by rw [HANSF.out]; exact HV9.out, HBW.out.trans (h9.below.mono HBW.out.size)⟩
     | true =>
      have HP : Hid (okJ p x bk n i = (readsB p.types x i bk n && typedB p i ((usesOf i).map (typeI p.types x)))) := by show _ = _; rw [hJ.out, if_pos HPQ.out]; unfold phC; rw [hq4, decide_eq_true HPHI.out, Bool.true_and, Bool.true_and]
      clear hq4
      have p0 := m0 w4 h4
      have p1 := m1 w4 h4
      have p2 := m2 w4 h4
      have p3 := m3 w4 h4
      have p4 := m4 w4 h4
      have p5 := m5 w4 h4
      have p6 := m6 w4 h4
      go_wp2_with fail
      refine (HRD.out _ h4).mono ?_
      rintro e w5 ⟨ra5, rn5, rc5, v5, rfl, hl5, hv5, hb5⟩
      have h5 := (h4).go hb5
      clear p0 p1 p2 p3 p4 p5 p6
      cases hr : readsB p.types x i bk n with
      | false =>
       have hjf : okJ p x bk n i = false := by rw [HP.out, hr]; rfl
       have HANSF : Hid (ans = false) := by show _ = _; rw [HANS.out, HNX.out hjf]; rfl
       rw [hr] at hv5
       have HB5 := hid hv5.no
       obtain ⟨t5, u5, rfl⟩ := HB5.out.iface
       clear hv5 hl5 hjf hr hb5
       go_wp2_with fail
       refine (HER.out _ _ w5 _ HB5.out).mono ?_
       rintro e w9 ⟨v9, rfl, hv9, hb9⟩
       have h9 := (h5).go hb9
       have HV9 := hid hv9
       obtain ⟨t9, u9, rfl⟩ := hv9.no.iface
       clear hv9 hb9
       go_wp2
       go_ret
       exact ⟨_, rfl, by rw [HANSF.out]; exact HV9.out, HBW.out.trans (h9.below.mono HBW.out.size)⟩
      | true =>
       rw [hr] at hv5
       obtain rfl := hv5.yes
       have HF := hid (HFT.out hr ra5 rn5 rc5 w5 h5 (hl5 hr))
       have HP2 : Hid (okJ p x bk n i = typedB p i ((usesOf i).map (typeI p.types x))) := by show _ = _; rw [HP.out, hr]; rfl
       have p0 := m0 w5 h5; have p1 := m1 w5 h5; have p2 := m2 w5 h5; have p3 := m3 w5 h5; have p4 := m4 w5 h5; have p5 := m5 w5 h5; have p6 := m6 w5 h5
       clear hv5 hl5 hr hb5 HFT HRD
       generalize typedB p i ((usesOf i).map (typeI p.types x)) = tq at *
       go_wp2_with fail
       refine HF.out.mono ?_
       rintro e w6 ⟨rfl, hb6⟩
       have h6 := h5.go hb6
       clear hb6 HF p0 p1 p2 p3 p4 p5 p6
       cases tq with
       | false =>
        have HANSF : Hid (ans = false) := by show _ = _; rw [HANS.out, HNX.out HP2.out]; rfl
        go_wp2_with fail
        refine (HER.out _ _ w6 _ (bad_form w6)).mono ?_
        rintro e w9 ⟨v9, rfl, hv9, hb9⟩
        have h9 := (h6).go hb9
        have HV9 := hid hv9
        obtain ⟨t9, u9, rfl⟩ := hv9.no.iface
        clear hv9 hb9
        go_wp2
        go_ret
        exact ⟨_, rfl, by rw [HANSF.out]; exact HV9.out, HBW.out.trans (h9.below.mono HBW.out.size)⟩
       | true =>
        have HX := hid (HAL2.out HP2.out)
        go_wp2
        go_roundg (gk - 1)
        case measure => have := HN.out; have := HNT.out; omega
        case rel => exact ⟨n + 1, by have := HN.out; have := HNT.out; omega, by go_num, HX.out, HAFT.out.go h6.below⟩
    ·obtain ⟨m, hm⟩ : ∃ m : Nat, n = m + 1 := ⟨n - 1, by omega⟩
     obtain ⟨y, hy⟩ := some_at (l := insAt x.blocks bk) (i := m) (by have := HNT.out; omega)
     obtain ⟨ig2, io2, _, _, _, _, he2, e0, _, _, _, _, _, _, _, _⟩ := ins_later HINS.out hy
     cases he2
     have hyo : insOf x.blocks bk (n - 1) = y := by rw [hm]; exact insOf_at hy
     have e0 := e0 W (hA.trans HAFTW.out)
     have hng : (0 : Int) < (n : Int) := by omega
     have hsub : ((n : Int) - 1) = (m : Int) := by omega
     have hml : (m : Int) < ((insAt x.blocks bk).length : Int) := by have := HNT.out; omega
     rw [HW.out] at e0
     clear hn0 d0 hy
     by_cases hy22 : y.op = 22
     ·have HPHI : Hid (n = 0 ∨ (insOf x.blocks bk (n - 1)).op = 22) := Or.inr (by rw [hyo]; exact hy22)
      rw [hy22] at e0
      clear hyo hm hy22
      have p0 := m0 W hW0; have p6 := m6 W hW0
      rw [HW.out] at p0 p6
      go_wp2_with fail
      all_goals (try (exfalso; omega))
      rw [← HW.out]
      refine (HEQ.out _ hW0).mono ?_
      rintro e w4 ⟨rfl, hb4⟩
      have h4 := hW0.go hb4
      clear hb4 p0 p6
      cases hq4 : decide (i.frm = ints (aheadL x.blocks bk)) with
      | false =>
       have hjf : okJ p x bk n i = false := by rw [hJ.out, if_pos HPQ.out]; unfold phC; rw [hq4, Bool.and_false, Bool.false_and]
       have HANSF : Hid (ans = false) := by show _ = _; rw [HANS.out, HNX.out hjf]; rfl
       clear hjf
       go_wp2_with fail
       refine (HER.out _ _ w4 _ (bad_form w4)).mono ?_
       rintro e w9 ⟨v9, rfl, hv9, hb9⟩
       have h9 := (h4).go hb9
       have HV9 := hid hv9
       obtain ⟨t9, u9, rfl⟩ := hv9.no.iface
       clear hv9 hb9
       go_wp2
       go_ret
       exact ⟨_, rfl, by rw [HANSF.out]; exact HV9.out, HBW.out.trans (h9.below.mono HBW.out.size)⟩
      | true =>
       have HP : Hid (okJ p x bk n i = (readsB p.types x i bk n && typedB p i ((usesOf i).map (typeI p.types x)))) := by show _ = _; rw [hJ.out, if_pos HPQ.out]; unfold phC; rw [hq4, decide_eq_true HPHI.out, Bool.true_and, Bool.true_and]
       clear hq4
       have p0 := m0 w4 h4
       have p1 := m1 w4 h4
       have p2 := m2 w4 h4
       have p3 := m3 w4 h4
       have p4 := m4 w4 h4
       have p5 := m5 w4 h4
       have p6 := m6 w4 h4
       go_wp2_with fail
       refine (HRD.out _ h4).mono ?_
       rintro e w5 ⟨ra5, rn5, rc5, v5, rfl, hl5, hv5, hb5⟩
       have h5 := (h4).go hb5
       clear p0 p1 p2 p3 p4 p5 p6
       cases hr : readsB p.types x i bk n with
       | false =>
        have hjf : okJ p x bk n i = false := by rw [HP.out, hr]; rfl
        have HANSF : Hid (ans = false) := by show _ = _; rw [HANS.out, HNX.out hjf]; rfl
        rw [hr] at hv5
        have HB5 := hid hv5.no
        obtain ⟨t5, u5, rfl⟩ := HB5.out.iface
        clear hv5 hl5 hjf hr hb5
        go_wp2_with fail
        refine (HER.out _ _ w5 _ HB5.out).mono ?_
        rintro e w9 ⟨v9, rfl, hv9, hb9⟩
        have h9 := (h5).go hb9
        have HV9 := hid hv9
        obtain ⟨t9, u9, rfl⟩ := hv9.no.iface
        clear hv9 hb9
        go_wp2
        go_ret
        exact ⟨_, rfl, by rw [HANSF.out]; exact HV9.out, HBW.out.trans (h9.below.mono HBW.out.size)⟩
       | true =>
        rw [hr] at hv5
        obtain rfl := hv5.yes
        have HF := hid (HFT.out hr ra5 rn5 rc5 w5 h5 (hl5 hr))
        have HP2 : Hid (okJ p x bk n i = typedB p i ((usesOf i).map (typeI p.types x))) := by show _ = _; rw [HP.out, hr]; rfl
        have p0 := m0 w5 h5; have p1 := m1 w5 h5; have p2 := m2 w5 h5; have p3 := m3 w5 h5; have p4 := m4 w5 h5; have p5 := m5 w5 h5; have p6 := m6 w5 h5
        clear hv5 hl5 hr hb5 HFT HRD
        generalize typedB p i ((usesOf i).map (typeI p.types x)) = tq at *
        go_wp2_with fail
        refine HF.out.mono ?_
        rintro e w6 ⟨rfl, hb6⟩
        have h6 := h5.go hb6
        clear hb6 HF p0 p1 p2 p3 p4 p5 p6
        cases tq with
        | false =>
         have HANSF : Hid (ans = false) := by show _ = _; rw [HANS.out, HNX.out HP2.out]; rfl
         go_wp2_with fail
         refine (HER.out _ _ w6 _ (bad_form w6)).mono ?_
         rintro e w9 ⟨v9, rfl, hv9, hb9⟩
         have h9 := (h6).go hb9
         have HV9 := hid hv9
         obtain ⟨t9, u9, rfl⟩ := hv9.no.iface
         clear hv9 hb9
         go_wp2
         go_ret
         exact ⟨_, rfl, by rw [HANSF.out]; exact HV9.out, HBW.out.trans (h9.below.mono HBW.out.size)⟩
        | true =>
         have HX := hid (HAL2.out HP2.out)
         go_wp2
         go_roundg (gk - 1)
         case measure => have := HN.out; have := HNT.out; omega
         case rel => exact ⟨n + 1, by have := HN.out; have := HNT.out; omega, by go_num, HX.out, HAFT.out.go h6.below⟩
     ·have hyq : (y.op != 22) = true := by rw [bne_iff_ne]; exact hy22
      have hyq2 : (y.op == 22) = false := by rw [beq_eq_false_iff_ne]; exact hy22
      have hjf : okJ p x bk n i = false := by
       rw [hJ.out, if_pos HPQ.out]
       unfold phC
       rw [hyo, decide_eq_false (fun h => by rcases h with h | h; exact absurd h (by omega); exact hy22 h), Bool.false_and, Bool.false_and]
      have HANSF : Hid (ans = false) := by show _ = _; rw [HANS.out, HNX.out hjf]; rfl
      have p0 := m0 W hW0
      rw [HW.out] at p0
      clear hjf hyo hm hy22
      go_wp2_with fail
      all_goals (try (exfalso; omega))
      rw [← HW.out]
      refine (HER.out _ _ W _ (bad_form W)).mono ?_
      rintro e w9 ⟨v9, rfl, hv9, hb9⟩
      have h9 := (hW0).go hb9
      have HV9 := hid hv9
      obtain ⟨t9, u9, rfl⟩ := hv9.no.iface
      clear hv9 hb9
      go_wp2
      go_ret
      exact ⟨_, rfl, by rw [HANSF.out]; exact HV9.out, HBW.out.trans (h9.below.mono HBW.out.size)⟩
   ·have hop : (i.op == 22) = false := by rw [beq_eq_false_iff_ne]; exact hphi
    have HP : Hid (okJ p x bk n i = (readsB p.types x i bk n && typedB p i ((usesOf i).map (typeI p.types x)))) := by show _ = _; rw [hJ.out, if_neg hphi, Bool.true_and]
    clear d0 hphi
    have p0 := m0 W hW0
    have p1 := m1 W hW0
    have p2 := m2 W hW0
    have p3 := m3 W hW0
    have p4 := m4 W hW0
    have p5 := m5 W hW0
    have p6 := m6 W hW0
    rw [HW.out] at p0 p1 p2 p3 p4 p5 p6
    go_wp2_with fail
    rw [← HW.out]
    refine (HRD.out _ hW0).mono ?_
    rintro e w5 ⟨ra5, rn5, rc5, v5, rfl, hl5, hv5, hb5⟩
    have h5 := (hW0).go hb5
    clear p0 p1 p2 p3 p4 p5 p6
    cases hr : readsB p.types x i bk n with
    | false =>
     have hjf : okJ p x bk n i = false := by rw [HP.out, hr]; rfl
     have HANSF : Hid (ans = false) := by show _ = _; rw [HANS.out, HNX.out hjf]; rfl
     rw [hr] at hv5
     have HB5 := hid hv5.no
     obtain ⟨t5, u5, rfl⟩ := HB5.out.iface
     clear hv5 hl5 hjf hr hb5
     go_wp2_with fail
     refine (HER.out _ _ w5 _ HB5.out).mono ?_
     rintro e w9 ⟨v9, rfl, hv9, hb9⟩
     have h9 := (h5).go hb9
     have HV9 := hid hv9
     obtain ⟨t9, u9, rfl⟩ := hv9.no.iface
     clear hv9 hb9
     go_wp2
     go_ret
     exact ⟨_, rfl, by rw [HANSF.out]; exact HV9.out, HBW.out.trans (h9.below.mono HBW.out.size)⟩
    | true =>
     rw [hr] at hv5
     obtain rfl := hv5.yes
     have HF := hid (HFT.out hr ra5 rn5 rc5 w5 h5 (hl5 hr))
     have HP2 : Hid (okJ p x bk n i = typedB p i ((usesOf i).map (typeI p.types x))) := by show _ = _; rw [HP.out, hr]; rfl
     have p0 := m0 w5 h5; have p1 := m1 w5 h5; have p2 := m2 w5 h5; have p3 := m3 w5 h5; have p4 := m4 w5 h5; have p5 := m5 w5 h5; have p6 := m6 w5 h5
     clear hv5 hl5 hr hb5 HFT HRD
     generalize typedB p i ((usesOf i).map (typeI p.types x)) = tq at *
     go_wp2_with fail
     refine HF.out.mono ?_
     rintro e w6 ⟨rfl, hb6⟩
     have h6 := h5.go hb6
     clear hb6 HF p0 p1 p2 p3 p4 p5 p6
     cases tq with
     | false =>
      have HANSF : Hid (ans = false) := by show _ = _; rw [HANS.out, HNX.out HP2.out]; rfl
      go_wp2_with fail
      refine (HER.out _ _ w6 _ (bad_form w6)).mono ?_
      rintro e w9 ⟨v9, rfl, hv9, hb9⟩
      have h9 := (h6).go hb9
      have HV9 := hid hv9
      obtain ⟨t9, u9, rfl⟩ := hv9.no.iface
      clear hv9 hb9
      go_wp2
      go_ret
      exact ⟨_, rfl, by rw [HANSF.out]; exact HV9.out, HBW.out.trans (h9.below.mono HBW.out.size)⟩
     | true =>
      have HX := hid (HAL2.out HP2.out)
      go_wp2
      go_roundg (gk - 1)
      case measure => have := HN.out; have := HNT.out; omega
      case rel => exact ⟨n + 1, by have := HN.out; have := HNT.out; omega, by go_num, HX.out, HAFT.out.go h6.below⟩
  ·obtain rfl : n = (insAt x.blocks bk).length := by have := HN.out; omega
   have HX := hid (HYES.out HALL.out)
   have HE := hid (HEN.out wr hA)
   have HA2 : Hid (ans = endq) := by show _ = _; rw [HANS.out, HX.out, Bool.true_and]
   clear HALL hnt
   go_wp2_with fail
   refine HE.out.mono ?_
   rintro e w2 ⟨v, rfl, hv, hb2⟩
   have h2 := hA.go hb2
   rw [← HA2.out] at hv
   have HV := hid hv
   have hifc : v = .nilIface ∨ ∃ t u, v = .iface t u := by
    cases ans with
    | true => exact .inl hv.yes
    | false => exact .inr hv.no.iface
   clear hv hb2
   rcases hifc with rfl | ⟨t1, u1, rfl⟩
   all_goals
    go_wp2
    go_ret
    exact ⟨_, rfl, HV.out, h2.below⟩
end Go.Proofs.YtpejpnffcepdlaaGreatDoor.SzY
namespace Go.Proofs.YtpejpnffcepdlaaGreatDoor.SzW
open Go.RowKit Go.Lib SetP IntO TyM TyP TyB TyC TyT ShM ShP ShA ShB ShC ShE ShH ShI ShJ Aft FwM FwP FwQ FwR FwO FwK FvB FdM FdQ FdK IntG BlkG LvM LuM SoM SvQ SvP SwA SwPh SzM SzE SzB SzS SzX SzY SzT ResT RgZ

def blocksC (p : Px) (f : Fx) : Bool := (List.range f.blocks.length).all (blockC p f)
/-- what keeps a function from being well formed -/
def fnC (p : Px) (f : Fx) : Bool := decide ((reachedL f.blocks).length = f.blocks.length) && (decide (aheadL f.blocks 0 = []) && blocksC p f)
theorem blocks_yes {p : Px} {f : Fx} (h : ∀ i, i < f.blocks.length → blockC p f i = true) : blocksC p f = true := by
 unfold blocksC
 exact List.all_eq_true.2 fun i hi => h i (List.mem_range.1 hi)
theorem blocks_no {p : Px} {f : Fx} {i : Nat} (hi : i < f.blocks.length) (h : blockC p f i = false) : blocksC p f = false := by
 cases e : blocksC p f with
 | false => rfl
 | true =>
  unfold blocksC at e
  have := List.all_eq_true.1 e i (List.mem_range.2 hi)
  rw [h] at this
  cases this
theorem reached_le (l : List Bx) : (reachedL l).length ≤ l.length := by
 unfold reachedL
 have := List.length_filter_le (fun i => FwC.has (FwC.comeO (succ l) (-1) l.length [0]) i) (List.range l.length)
 rw [List.length_range] at this
 exact this
/-- a body whose firsts grow -/
structure FoSt (W4 : World) (cs : Value → Array Value) (v : Value) (l : List Int) (w : World) : Prop where
 blk : w.heap[W4.heap.size]? = some (.cells (cs v) 195 (0, 0))
 row : w.ownsRow (W4.heap.size + 1) 3 1 v l.length (intVals l)
 bel : Below W4.heap.size W4 w
 siz : W4.heap.size + 1 ≤ w.heap.size
theorem FoSt.go {W4 : World} {cs : Value → Array Value} {v : Value} {l : List Int} {w w' : World} (h : FoSt W4 cs v l w) (hb : Below w.heap.size w w') : FoSt W4 cs v l w' :=
 ⟨(hb.block _ (Array.getElem?_eq_some_iff.1 h.blk).1).trans h.blk, ownsRow_below h.row hb, h.bel.trans (hb.mono h.bel.size), Nat.le_trans h.siz hb.size⟩

theorem FoSt.cell {W4 : World} {cs : Value → Array Value} {v : Value} {l : List Int} {w : World} {c0 c1 c2 c3 c4 c5 c7 : Value} (h : FoSt W4 cs v l w) (hc : cs = fun vv => #[c0, c1, c2, c3, c4, c5, vv, c7]) : w.cell? ⟨W4.heap.size, 6, none⟩ = some v ∧ w.frozen? ⟨W4.heap.size, 6, none⟩ = false := by
 have hb := h.blk
 rw [hc] at hb
 obtain ⟨h1, h2⟩ := ResT.cells_heap hb
 exact ⟨h1 6 _ rfl, h2 6⟩
theorem FoSt.grow {W4 : World} {cs : Value → Array Value} {v v' : Value} {l : List Int} {w w' : World} {c : Int} {tmp : Obj} {c0 c1 c2 c3 c4 c5 c7 : Value} (h : FoSt W4 cs v l w) (hc : cs = fun vv => #[c0, c1, c2, c3, c4, c5, vv, c7]) (hset : ∀ a c, (cs a).setIfInBounds 6 c = cs c)
  (ho : w'.ownsRow (W4.heap.size + 1) 3 1 v' (l.length + [c].length) (intVals l ++ intVals [c])) (hg : (w.alloc tmp).grownBy w' v.ownBlock) :
  w'.cell? ⟨W4.heap.size, 6, none⟩ = some v ∧ w'.frozen? ⟨W4.heap.size, 6, none⟩ = false ∧ FoSt W4 cs v' (l ++ [c]) (w'.setCell ⟨W4.heap.size, 6, none⟩ v') := by
 have hbB : Below (W4.heap.size + 1) w w' := own_grown ((alloc_below w tmp).mono h.siz) (h.row.alloc tmp) hg (Nat.le_trans h.siz (by simp))
 have hblk : w'.heap[W4.heap.size]? = some (.cells (cs v) 195 (0, 0)) := (hbB.block _ (Nat.lt_succ_self _)).trans h.blk
 have hbel : Below W4.heap.size W4 w' := h.bel.trans (hbB.mono (Nat.le_succ _))
 have hsz : W4.heap.size + 1 ≤ w'.heap.size := Nat.le_trans h.siz hbB.size
 have hb2 := hblk
 rw [hc] at hb2
 obtain ⟨h1, h2⟩ := ResT.cells_heap hb2
 refine ⟨h1 6 _ rfl, h2 6, ⟨?_, ?_, hbel.setCell (p := ⟨W4.heap.size, 6, none⟩) (Nat.le_refl _) _, ?_⟩⟩
 ·rw [ResT.set_heap (i := 6) v' hblk, hset]
 ·rw [List.length_append, intVals_append]
  exact owns_set ho (Nat.lt_succ_self _)
 ·rw [TyD.size_set]; exact hsz

set_option maxRecDepth 100000 in
set_option maxHeartbeats 16000000 in
theorem formFunc_calls (CR : ReachC) (CP : PredsC) (CA : AllC) (p : Px) (k : Nat) (x : Fx) (v : Value) (w : World) (hp : PrAt w v p) (hs : Small p) (hok : POk p) (hc : chkP p = 0) (h1 : Has1 p k k x) (htab : Tab w) :
  Calls Tryz.prog 69 #[v, .int .i64 (k : Int)] w (ErrR (fnC p x) w) := by
 have hxm := List.mem_of_getElem? h1.at_
 have hkl := h1.lt
 have hkf := hs.funcs
 have hfind : findP p (k : Int) = 0 := find_ok hc ⟨by omega, by omega⟩
 have hblk : blsP p (k : Int) = x.blocks := fn_blocks h1
 have hpos : 0 < x.blocks.length := h1.blocks1
 have hask : askB p (k : Int) ((0 : Nat) : Int) = 0 := ask_yes hfind (by omega) (by rw [hblk]; omega)
 have hpre : predsA p (k : Int) ((0 : Nat) : Int) = ints (aheadL x.blocks 0) := by unfold predsA; rw [if_pos hask, hblk, Int.toNat_natCast]
 have hrea : reachA p (k : Int) = ints (reachedL x.blocks) := by unfold reachA; rw [if_pos hfind, hblk]
 have hall : allD p (k : Int) = allL x.blocks := by unfold allD; rw [if_pos hfind, hblk]
 obtain ⟨hlow, _, h16⟩ := low_of hc hok hxm
 have hp0 := hp
 obtain ⟨vt, vf, rfl, ht, hf⟩ := hp
 obtain ⟨W, hW⟩ : ∃ W, W = w.alloc (.cells #[vt, vf] 27) := ⟨_, rfl⟩
 have hbW : Below w.heap.size w W := by rw [hW]; exact alloc_below _ _
 have k1 : W.heap[w.heap.size]? = some (.cells #[vt, vf] 27 (0, 0)) := by rw [hW]; exact ShB.alloc_new _ _
 have HP := hid (fun (wx : World) (ha : Aft W wx) => (hp0.below hbW).below ha.below)
 have HTB := hid (fun (wx : World) (ha : Aft W wx) => htab.on (hbW.trans (ha.below.mono hbW.size)))
 have HREA := hid (fun (wx : World) (ha : Aft W wx) => CR p (k : Int) _ wx (HP.out wx ha) (HTB.out wx ha) hs hok ⟨by omega, by omega⟩)
 have HPRE := hid (fun (wx : World) (ha : Aft W wx) => CP p (k : Int) ((0 : Nat) : Int) _ wx (HP.out wx ha) (HTB.out wx ha) hs hok ⟨by omega, by omega⟩ ⟨by omega, by omega⟩)
 have HALC := hid (fun (wx : World) (ha : Aft W wx) => CA p (k : Int) _ wx (HP.out wx ha) (HTB.out wx ha) hs hok ⟨by omega, by omega⟩)
 have HTYO := hid (fun (wx : World) (ha : Aft W wx) => SzT.types_calls p k x _ wx (HP.out wx ha) hs hok h1 (HTB.out wx ha))
 rw [hask, hpre] at HPRE
 rw [hfind, hrea] at HREA
 rw [hfind, hall] at HALC
 have HTY := hid (ht.below hbW)
 have hfW := hf.below fnStays hbW
 have HFS := hid hfW
 obtain ⟨ta, tc, rfl⟩ := ht.slice
 obtain ⟨fa, fc, rfl, _⟩ := hf.slice
 obtain ⟨fb, foff, fcap, ao, bc, he, d0, d1, hbl⟩ := fn_later hfW h1
 cases he
 have HBLS := hid hbl
 have l0 : ∀ w', Aft W w' → w'.cell? ⟨w.heap.size, 0, none⟩ = some (.slice ta p.types.length tc) := later_cells k1 0 _ rfl
 have l1 : ∀ w', Aft W w' → w'.cell? ⟨w.heap.size, 1, none⟩ = some (.slice (some ⟨fb, foff, none⟩) p.funcs.length fc) := later_cells k1 1 _ rfl
 have hki : (k : Int) < (p.funcs.length : Int) := by omega
 have h0 := Aft.refl W
 have HFN : Hid (fnC p x = (decide ((reachedL x.blocks).length = x.blocks.length) && (decide (aheadL x.blocks 0 = []) && blocksC p x))) := rfl
 have hrle := reached_le x.blocks
 have HBW := hid hbW
 have HW := hid hW
 have HSM := hid hs
 have HOKP := hid hok
 have HCP := hid hc
 have HH1 := hid h1
 have HTABW := hid htab
 have hrl := ints_length (reachedL x.blocks)
 have hal := ints_length (aheadL x.blocks 0)
 clear hs hok hc h1 htab ht hf hbW hW k1 hfW hbl hp0 hfind hblk hask hpre hrea hall hxm hkf
 generalize fnC p x = ans at *
 generalize hnr : (ints (reachedL x.blocks)).length = nr at *
 generalize hna : (ints (aheadL x.blocks 0)).length = na at *
 have HNR := hid hrl
 have HNA := hid hal
 clear hrl hal
 go_enter Tryz.func69, Tryz.ntmps69
 go_wp2_with fail
 rw [← HW.out]
 refine (HREA.out _ h0).mono ?_
 rintro e w1 ⟨u1, rfl, hu1, hb1⟩
 have ha1 := h0.go hb1
 obtain ⟨r1a, r1c, rfl, _⟩ := ints_slice hu1.1
 rw [hnr]
 clear hb1 hu1 HREA
 have p0 := l0 w1 ha1; have p1 := l1 w1 ha1
 go_wp2_with fail
 refine (HPRE.out _ ha1).mono ?_
 rintro e w2 ⟨u2, rfl, hu2, hb2⟩
 have ha2 := ha1.go hb2
 obtain ⟨r2a, r2c, rfl, _⟩ := ints_slice hu2.1
 rw [hna]
 clear hb2 hu2 HPRE p0 p1
 have p0 := l0 w2 ha2; have p1 := l1 w2 ha2; have q1 := d1 w2 ha2
 by_cases hr : nr = x.blocks.length
 rotate_left
 ·have hlt : (nr : Int) < (x.blocks.length : Int) := by have := HNR.out; omega
  have HX : Hid (ans = false) := by show _ = _; rw [HFN.out, decide_eq_false (fun h => hr (HNR.out.trans h))]; rfl
  clear hr
  go_wp2
  go_ret
  exact ⟨_, rfl, by rw [HX.out]; exact bad_form w2, ha2.out HBW.out⟩
 have hnlt : ¬ (nr : Int) < (x.blocks.length : Int) := by omega
 by_cases hz : na = 0
 rotate_left
 ·have hgt : (0 : Int) < (na : Int) := by omega
  have HX : Hid (ans = false) := by
   show _ = _
   rw [HFN.out, decide_eq_false (p := aheadL x.blocks 0 = []) (fun h => hz (by have := HNA.out; rw [h] at this; exact this)), Bool.false_and, Bool.and_false]
  clear hr hz
  go_wp2
  all_goals (try (exfalso; omega))
  go_ret
  exact ⟨_, rfl, by rw [HX.out]; exact bad_form w2, ha2.out HBW.out⟩
 have hngt : ¬ (0 : Int) < (na : Int) := by omega
 have HFN2 : Hid (ans = blocksC p x) := by
  show _ = _
  have e1 : aheadL x.blocks 0 = [] := List.eq_nil_of_length_eq_zero (by have := HNA.out; omega)
  rw [HFN.out, decide_eq_true (HNR.out.symm.trans hr), decide_eq_true e1, Bool.true_and, Bool.true_and]
 have hreach : ∀ b, b < x.blocks.length → FwM.Comes (succ x.blocks) 0 b := fun b hb => (reached_mem hlow hpos b).1 (all_reached (HNR.out.symm.trans hr) hb)
 have HREACH := hid hreach
 clear hr hz HFN hreach hrle
 go_wp2_with fail
 refine (HALC.out _ ha2).mono ?_
 rintro e W3 ⟨u3, rfl, hu3, hb3⟩
 have ha3 := ha2.go hb3
 obtain ⟨r3a, r3c, rfl, _⟩ := ints_slice hu3.1
 have HRUL := hid hu3.1
 clear hb3 hu3 HALC p0 p1 q1
 have l0' : ∀ w', Aft W3 w' → w'.cell? ⟨w.heap.size, 0, none⟩ = some (.slice ta p.types.length tc) := fun w' h => l0 w' (ha3.trans h)
 have l1' : ∀ w', Aft W3 w' → w'.cell? ⟨w.heap.size, 1, none⟩ = some (.slice (some ⟨fb, foff, none⟩) p.funcs.length fc) := fun w' h => l1 w' (ha3.trans h)
 have d0' : ∀ w', Aft W3 w' → _ := fun w' h => d0 w' (ha3.trans h)
 have d1' : ∀ w', Aft W3 w' → _ := fun w' h => d1 w' (ha3.trans h)
 have h30 := Aft.refl W3
 have h3d := h30.drew
 have HTO := hid (HTYO.out _ (ha3.trans h3d))
 have L0 := hid l0; have L1 := hid l1; have D0 := hid d0; have D1 := hid d1
 clear l0 l1 d0 d1
 go_upto_region 6 with fail
 refine wp_region_noPanic ?_
 refine wp_region_Z (S := (fun w' => Aft W3 w')) (Z := []) (by kernel_rfl) ?_ (fun hHeld => ?_)
 ·(try dsimp only)
  (exact h3d)
 refine zP 0 rfl ?_
 refine zT 1 rfl ?_
 refine zP 2 rfl ?_
 refine zP 3 rfl ?_
 refine zT 4 rfl ?_
 refine zT 5 rfl ?_
 refine zP 6 rfl ?_
 refine zT 8 rfl ?_
 refine zP 9 rfl ?_
 refine zP 10 rfl ?_
 refine zC 7 rfl (fun K hK => ?_)
 go_simp
 (with_reducible refine HTO.out.mono ?_)
 rintro e w4 ⟨u4, m4, rfl, ho4, hb4⟩
 obtain ⟨ra4, rc4, rfl⟩ := own_slice ho4
 refine hK.out _ _ ?_ (fun hHeld => ?_)
 ·(try dsimp only)
  (exact h3d.go hb4)
 clear hK K
 refine zP 11 rfl ?_
 refine zC 12 rfl (fun K hK => ?_)
 go_simp
 refine hK.out _ _ ?_ (fun hHeld => ?_)
 ·(try dsimp only)
  (exact (h3d.go hb4).alloc _)
 clear hK K
 refine zT 13 rfl ?_
 try simp only [Act.put, List.setIfInBounds_toArray, List.set_cons_zero, List.set_cons_succ]
 refine wpAnyZ_done (by kernel_rfl) ?_ _
 refine NoPanic.normal ?_
 have hm4 := own_len ho4
 subst hm4
 have hi4 := intsAt_of_owns ho4 (by rw [regL_len]; have := HSM.out.many x (List.mem_of_getElem? HH1.out.at_); have := par_le HSM.out.parts HH1.out.sig0 HH1.out.sig1; omega)
 have ha4 : Aft W w4 := (ha3.trans h3d).go hb4
 obtain ⟨W5, hW5⟩ : ∃ W5, W5 = w4.alloc (.cells #[.int .i64 x.sig, .slice ao x.blocks.length bc, .slice ra4 (regL p.types x).length rc4, .slice ta p.types.length tc, .slice (some ⟨fb, foff, none⟩) p.funcs.length fc, .int .i64 (k : Int), .slice none 0 0, .slice r3a (allL x.blocks).length r3c] 195) := ⟨_, rfl⟩
 rw [← hW5]
 have hb5 : Below w4.heap.size w4 W5 := by rw [hW5]; exact alloc_below _ _
 have k5 : W5.heap[w4.heap.size]? = some (.cells #[.int .i64 x.sig, .slice ao x.blocks.length bc, .slice ra4 (regL p.types x).length rc4, .slice ta p.types.length tc, .slice (some ⟨fb, foff, none⟩) p.funcs.length fc, .int .i64 (k : Int), .slice none 0 0, .slice r3a (allL x.blocks).length r3c] 195 (0, 0)) := by rw [hW5]; exact ShB.alloc_new _ _
 have hs5 : W5.heap.size = w4.heap.size + 1 := by rw [hW5]; simp
 obtain ⟨cs, hcs⟩ : ∃ cs : Value → Array Value, cs = fun vv => #[.int .i64 x.sig, .slice ao x.blocks.length bc, .slice ra4 (regL p.types x).length rc4, .slice ta p.types.length tc, .slice (some ⟨fb, foff, none⟩) p.funcs.length fc, .int .i64 (k : Int), vv, .slice r3a (allL x.blocks).length r3c] := ⟨_, rfl⟩
 have hset : ∀ a c, (cs a).setIfInBounds 6 c = cs c := by intro a c; rw [hcs]; simp
 have HST5 := hid (show FoSt w4 cs (.slice none 0 0) [] W5 from ⟨by rw [hcs]; exact k5, World.ownsRow_nil _ _ _ _, hb5, by omega⟩)
 obtain ⟨sn, hsn⟩ : ∃ sn : Nat, x.sig = sn := ⟨x.sig.toNat, by have := HH1.out.sig0; omega⟩
 have hsl : sn < p.types.length := by have := HH1.out.sig1; omega
 obtain ⟨tg, toff, pa, pc, rfl, _, _, _, t3, _⟩ := ty_later HTY.out sn hsl
 have hsi : (sn : Int) < (p.types.length : Int) := by omega
 have hpar : (tyN p.types (sn : Int)).parts.length = parOf p.types x.sig := by rw [← hsn]; rfl
 have h5 : Aft W W5 := ha4.go hb5
 have b0 : W5.cell? ⟨w4.heap.size, 0, none⟩ = some (.int .i64 (sn : Int)) := by have := later_cells k5 0 _ rfl W5 (Aft.refl _); rw [← hsn]; exact this
 have c0 := L0.out W5 h5
 have c3 := t3 W5 h5
 rw [hpar] at c3
 have HPARLE := hid (show parOf p.types x.sig ≤ 20000 from par_le HSM.out.parts HH1.out.sig0 HH1.out.sig1)
 have HSET := hid hset
 have HCS := hid hcs
 have HI4 := hid hi4
 have HA4 := hid ha4
 have HB4 := hid hb4
 clear ho4 hb4 hb5 k5 hset hcs hi4 hW5 t3 hpar
 have HLOW := hid hlow; have HPOS := hid hpos
 generalize hq1 : parOf p.types x.sig = par at *
 have HQ1 := hid hq1
 go_wp2_with fail
 go_quiet (fail)
 obtain ⟨W6, hW6⟩ : ∃ W6, W6 = W5.drewN nq := ⟨_, rfl⟩
 have hb6 : Below W5.heap.size W5 W6 := by rw [hW6]; exact below_drewN (Below.refl _ _) nq
 rw [← hW6]
 have HST6 := hid (HST5.out.go hb6)
 clear hW6 HST5 b0 c0 c3 h5 hb6
 obtain ⟨q6, z6⟩ := HST6.out.cell HCS.out
 have HO7 := hid (HST6.out.row.alloc (.cells #[.int .i64 (par : Int)] 3))
 have HI7 := hid (ints_one (w := W6.alloc (.cells #[.int .i64 (par : Int)] 3)) (b := W6.heap.size) (n := (par : Int)) (cell_new _ _ _ _ rfl) (size_new _ _ _ rfl))
 have hsz : w4.heap.size + 1 ≤ (W6.alloc (.cells #[.int .i64 (par : Int)] 3)).heap.size := by have := HST6.out.siz; simp; omega
 clear z6
 go_wp2_with (at_builtin; refine wpList_append_intsN rfl (.tmp 79) (.tmp 81) rfl (w4.heap.size + 1) (.slice none 0 0) rfl _ (intVals []) HO7.out (by simp) (.slice (some ⟨W6.heap.size, 0, none⟩) 1 1) [(par : Int)] rfl HI7.out (by simp) hsz ?_)
 intro v8 w8 hown8 hgr8 _
 obtain ⟨q8, z8, hst8⟩ := HST6.out.grow HCS.out HSET.out hown8 hgr8
 have HST8 := hid hst8
 obtain ⟨W9, hW9⟩ : ∃ W9, W9 = w8.setCell ⟨w4.heap.size, 6, none⟩ v8 := ⟨_, rfl⟩
 rw [← hW9] at HST8
 have b1 : W9.cell? ⟨w4.heap.size, 1, none⟩ = some (.slice ao x.blocks.length bc) := by have := HST8.out.blk; rw [HCS.out] at this; exact later_cells this 1 _ rfl W9 (Aft.refl _)
 rw [hW9] at b1
 have HW9 := hid hW9
 have hrow8 : W9.ownsRow (w4.heap.size + 1) 3 1 v8 1 (intVals [(par : Int)]) := HST8.out.row
 obtain ⟨v8a, v8c, rfl⟩ := own_slice hrow8
 clear hrow8 hown8 hgr8 hst8 HO7 HI7 hsz q6 HST6 hW9
 go_wp2_with fail
 rw [← HW9.out]
 have HFZ : Hid (firstL par x.blocks 1 = [(par : Int)]) := by show _ = _; rw [show (1 : Nat) = 0 + 1 from rfl, firstL_next, first_zero]; rfl
 go_loopg [12, 91] x.blocks.length (fun gk fv iv wr => ∃ (n : Nat) (vf : Value), n + gk = x.blocks.length ∧ iv = .int .i64 n ∧ fv = .int .i64 ((firstB' par x.blocks n : Nat) : Int) ∧ FoSt w4 cs vf (firstL par x.blocks (n + 1)) wr)
 case atStart => exact ⟨0, _, by omega, rfl, by rw [first_zero], by rw [HFZ.out]; exact HST8.out⟩
 case round =>
  obtain ⟨n, vf, hn, rfl, rfl, hst⟩ := hrel
  have HN := hid hn
  have HST := hid hst
  have hA : Aft W wr := HA4.out.trans hst.bel
  clear hn hst b1 q8 z8
  by_cases hnt : n < x.blocks.length
  ·have HNT := hid hnt
   obtain ⟨bg, bo, xa, xc, rfl, z0, _, z1, z2, z3, z4⟩ := blk_ins HBLS.out hnt
   obtain ⟨Wb, hWb⟩ : ∃ Wb, Wb = wr.alloc (.cells #[.slice xa (insAt x.blocks n).length xc, .int .u8 (endAt x.blocks n).kind, .int .i64 (endAt x.blocks n).a, .int .i64 (endAt x.blocks n).to, .int .i64 (endAt x.blocks n).els] 38) := ⟨_, rfl⟩
   have hbb : Below wr.heap.size wr Wb := by rw [hWb]; exact alloc_below _ _
   have HSTb := hid (HST.out.go hbb)
   obtain ⟨q6, _⟩ := HSTb.out.cell HCS.out
   rw [hWb] at q6
   have HFN1 := hid (first_next (par := par) hnt)
   have HFL := hid (first_le (par := par) (l := x.blocks) (k := n + 1))
   have HMANY := hid (HSM.out.many x (List.mem_of_getElem? HH1.out.at_))
   have hfi : firstB' par x.blocks n ≤ 40000 := by have := HFL.out; have := HFN1.out; have := HMANY.out; have := HPARLE.out; omega
   have hli : (insAt x.blocks n).length ≤ 40000 := by have := HFL.out; have := HFN1.out; have := HMANY.out; have := HPARLE.out; omega
   have hFS : ((firstB' par x.blocks (n + 1) : Nat) : Int) = ((firstB' par x.blocks n : Nat) : Int) + ((insAt x.blocks n).length : Int) := by rw [HFN1.out]; omega
   have HFS := hid hFS
   have hnl : (n : Int) < (x.blocks.length : Int) := by omega
   have HB16 := hid HH1.out.blocks
   have hnb : n ≤ 9223372036854775806 := by have := HB16.out; omega
   have y0 := z0 wr hA; have y1 := z1 wr hA; have y2 := z2 wr hA; have y3 := z3 wr hA; have y4 := z4 wr hA
   have HWB := hid hWb
   have HFLN := hid (firstL_next par x.blocks (n + 1))
   have HFLL := hid (firstL_len par x.blocks (n + 1))
   clear z0 z1 z2 z3 z4 hbb hWb hFS hnt
   generalize hfq : firstB' par x.blocks n = fq at *
   generalize hfq2 : firstB' par x.blocks (n + 1) = fq2 at *
   have HFQ2 := hid hfq2
   clear hfq hfq2
   have hwbs : Wb.heap.size = wr.heap.size + 1 := by rw [HWB.out]; simp
   generalize hln : (insAt x.blocks n).length = ln at *
   have HLN := hid hln
   clear hln
   have HSUM : Hid (((fq : Int) + (ln : Int)) = (fq2 : Int)) := HFS.out.symm
   have HO7 := hid (HSTb.out.row.alloc (.cells #[.int .i64 ((fq : Int) + (ln : Int))] 3))
   have HI7 := hid (ints_one (w := Wb.alloc (.cells #[.int .i64 ((fq : Int) + (ln : Int))] 3)) (b := wr.heap.size + 1) (n := ((fq : Int) + (ln : Int))) (cell_new _ _ _ _ hwbs) (size_new _ _ _ hwbs))
   have hsz : w4.heap.size + 1 ≤ (Wb.alloc (.cells #[.int .i64 ((fq : Int) + (ln : Int))] 3)).heap.size := by have := HSTb.out.siz; simp; omega
   rw [HWB.out] at HO7 HI7 hsz
   have HSZ := hid hsz
   obtain ⟨vfa, vfc, rfl⟩ := own_slice HST.out.row
   clear hwbs hsz
   go_wp2_with (at_builtin; refine wpList_append_intsN rfl (.tmp 104) (.tmp 106) rfl (w4.heap.size + 1) (.slice vfa (firstL par x.blocks (n + 1)).length vfc) rfl _ (intVals (firstL par x.blocks (n + 1))) HO7.out (by rw [HFLL.out]; have := HB16.out; have := HNT.out; omega) (.slice (some ⟨wr.heap.size + 1, 0, none⟩) 1 1) [((fq : Int) + (ln : Int))] rfl HI7.out (by simp) HSZ.out ?_)
   intro v10 w10 hown10 hgr10 _
   rw [← HWB.out] at hgr10
   obtain ⟨qa, za, hst10⟩ := HSTb.out.grow HCS.out HSET.out hown10 hgr10
   have HST10 := hid hst10
   clear hown10 hgr10 hst10 HO7 HI7 HSZ q6
   rw [HSUM.out, ← HFLN.out] at HST10
   obtain ⟨v10a, v10c, rfl⟩ := own_slice HST10.out.row
   go_wp2
   go_roundg (gk - 1)
   case measure => have := HN.out; have := HNT.out; omega
   case rel => exact ⟨n + 1, _, by have := HN.out; have := HNT.out; omega, by go_num, by rw [HFQ2.out, ← HSUM.out], HST10.out⟩
  ·obtain rfl : n = x.blocks.length := by have := HN.out; omega
   clear hnt
   have HSTF := hid HST.out
   have hb1' : wr.cell? ⟨w4.heap.size, 1, none⟩ = some (.slice ao x.blocks.length bc) := by have := HST.out.blk; rw [HCS.out] at this; exact later_cells this 1 _ rfl wr (Aft.refl _)
   obtain ⟨fva, fvc, rfl⟩ := own_slice HST.out.row
   have hBel : Aft w4 wr := HST.out.bel
   have hfle : (firstL par x.blocks (x.blocks.length + 1)).length ≤ 20 := by rw [firstL_len]; have := HH1.out.blocks; omega
   have HBD := hid (show BdAt wr w4.heap.size p k x (firstL par x.blocks (x.blocks.length + 1)) (allL x.blocks) from by
    have hbk := HST.out.blk
    rw [HCS.out] at hbk
    exact ⟨_, _, _, _, _, _, _, _, _, _, _, _, hbk, HBLS.out.below blkStays (HA4.out.trans hBel).below, HI4.out.below hBel.below, HTY.out.below (HA4.out.trans hBel).below, HFS.out.below fnStays (HA4.out.trans hBel).below, intsAt_of_owns HST.out.row (by omega), HRUL.out.below ((h3d.go HB4.out).trans hBel).below⟩)
   have HBO := hid (show BdOk p x (firstL par x.blocks (x.blocks.length + 1)) (allL x.blocks) from ⟨HCP.out, HOKP.out, HSM.out, List.mem_of_getElem? HH1.out.at_, HREACH.out, by rw [HQ1.out], fun j hj => by
    unfold allL
    rw [List.getElem?_map, List.getElem?_range hj]
    show some (if j ∈ reachedL x.blocks then rulerL x.blocks j else -1) = _
    rw [if_pos ((reached_mem HLOW.out HPOS.out j).2 (HREACH.out j hj))]⟩)
   have HBLK := hid (fun (j : Nat) (hj : j < x.blocks.length) (wx : World) (ha : Aft wr wx) => block_calls w4.heap.size p k x _ _ CP j wx (HBD.out.on ha) HBO.out HH1.out.at_ (HTB.out wx ((HA4.out.trans hBel).trans ha)) hj)
   have HER := hid (fun (s : ByteArray) (r : Int) (wx : World) (v : Value) (hv : BadAt wx v) => in_calls s r v wx hv)
   have HYES := hid (fun h => blocks_yes (p := p) (f := x) h)
   have HNO := hid (fun i (hi : i < x.blocks.length) h => blocks_no (p := p) (f := x) hi h)
   have HB16 := hid HH1.out.blocks
   have HAW := hid (HA4.out.trans hBel)
   obtain ⟨wo, hwo⟩ : ∃ wo : World, wo = wr := ⟨wr, rfl⟩
   subst hwo
   obtain ⟨gko, hgko⟩ : ∃ gko : Nat, gko = gk := ⟨gk, rfl⟩
   subst hgko
   clear hBel hfle
   go_wp2_with fail
   go_loopg [117] x.blocks.length (fun gk iv wr => ∃ n : Nat, n + gk = x.blocks.length ∧ iv = .int .i64 n ∧ (∀ j, j < n → blockC p x j = true) ∧ Aft wo wr)
   case atStart => exact ⟨0, by omega, rfl, fun j hj => absurd hj (by omega), Aft.refl wo⟩
   case round =>
    obtain ⟨n, hn, rfl, hall, hA2⟩ := hrel
    have HN2 := hid hn
    have HALL := hid hall
    clear hn hall
    by_cases hnt : n < x.blocks.length
    ·have HNT := hid hnt
     have HBC := hid (HBLK.out n hnt wr hA2)
     have HNX := hid (HNO.out n hnt)
     have hnl : (n : Int) < (x.blocks.length : Int) := by omega
     have hnb : n ≤ 9223372036854775806 := by have := HB16.out; omega
     have HAL2 : Hid (blockC p x n = true → ∀ j, j < n + 1 → blockC p x j = true) := fun hj j hlt => by
      by_cases e : j = n
      ·subst e; exact hj
      ·exact HALL.out j (by omega)
     clear hnt HBLK
     generalize blockC p x n = q at *
     go_wp2_with fail
     refine HBC.out.mono ?_
     rintro e w12 ⟨v12, rfl, hv12, hb12⟩
     have h12 := hA2.go hb12
     cases q with
     | false =>
      have HX := hid (HNX.out rfl)
      have HV := hid hv12.no
      obtain ⟨t1, u1, rfl⟩ := HV.out.iface
      clear hv12 hb12
      go_wp2_with fail
      refine (HER.out _ _ w12 _ HV.out).mono ?_
      rintro e w13 ⟨v13, rfl, hv13, hb13⟩
      have h13 := h12.go hb13
      have HV13 := hid hv13
      obtain ⟨t13, u13, rfl⟩ := hv13.no.iface
      clear hv13 hb13
      go_wp2
      go_ret
      exact ⟨_, rfl, by rw [HFN2.out, HX.out]; exact HV13.out, (HAW.out.trans h13).out HBW.out⟩
     | true =>
      obtain rfl := hv12.yes
      have HX := hid (HAL2.out rfl)
      clear hv12 hb12
      go_wp2
      go_roundg (gk - 1)
      case measure => have := HN2.out; have := HNT.out; omega
      case rel => exact ⟨n + 1, by have := HN2.out; have := HNT.out; omega, by go_num, HX.out, h12⟩
    ·obtain rfl : n = x.blocks.length := by have := HN2.out; omega
     have HX := hid (HYES.out HALL.out)
     clear hnt
     go_wp2
     go_ret
     exact ⟨_, rfl, by rw [HFN2.out, HX.out]; rfl, (HAW.out.trans hA2).out HBW.out⟩
end Go.Proofs.YtpejpnffcepdlaaGreatDoor.SzW
namespace Go.Proofs.YtpejpnffcepdlaaGreatDoor.SzZ
open TyM ShM ShP ShE ShH ShI ShN ShJ ShK ShL ShBP FwM FwC FwP FwQ FdM FdQ FeP FxL LvM LvQ LuM SoM SvQ SvP SzM SzR SzX SzY SzW

theorem end_is (p : Px) (f : Fx) (bk : Nat) : SvQ.endB p f bk = (endC p f bk && decide ((0 : Int) ∉ toE (endAt f.blocks bk))) := by
 unfold SvQ.endB endC
 by_cases hk : (endAt f.blocks bk).kind = 2 ∨ (endAt f.blocks bk).kind = 3
 ·have he : endsOf (endAt f.blocks bk) = [(endAt f.blocks bk).a] := by unfold endsOf; rw [if_pos hk]
  rw [he]
  generalize (endAt f.blocks bk).a = u
  unfold typesL typesB setsB okE
  simp only [List.all_cons, List.all_nil, Bool.and_true, List.map_cons, List.map_nil]
  cases ht : decide (0 ≤ typeI p.types f u) with
  | false => simp
  | true =>
   simp only [if_true, Bool.and_true, Bool.true_and, List.getD_cons_zero]
   cases isSetL (parOf p.types f.sig) f.blocks u (bk : Int) ((insAt f.blocks bk).length : Int) with
   | false => simp
   | true => simp only [Bool.true_and]; rw [Bool.and_comm]
 ·have he : endsOf (endAt f.blocks bk) = [] := by unfold endsOf; rw [if_neg hk]
  rw [he]
  have h2 : ¬ (endAt f.blocks bk).kind = 2 := fun h => hk (.inl h)
  have h3 : ¬ (endAt f.blocks bk).kind = 3 := fun h => hk (.inr h)
  unfold typesB setsB
  simp [h2, h3]
theorem reads_other {t : List Ty} {f : Fx} {x : Ix} {bk k : Nat} (h : x.op ≠ 22) : readsB t f x bk k = true ↔ typesB t f (usesOf x) = true ∧ setsB (parOf t f.sig) f.blocks (usesOf x) bk k = true := by
 have hk : ∀ n u, okR t f x bk k n u = (isSetL (parOf t f.sig) f.blocks u (bk : Nat) (k : Nat) && decide (0 ≤ typeI t f u)) := fun n u => by
  have e : plB x bk n = bk := by unfold plB; rw [if_neg h]
  have e2 : plP f.blocks x bk k n = k := by unfold plP; rw [if_neg h]
  unfold okR; rw [e, e2]
 unfold readsB typesB setsB
 simp only [List.all_eq_true, List.mem_range]
 constructor
 ·intro hh
  have key : ∀ r ∈ usesOf x, isSetL (parOf t f.sig) f.blocks r (bk : Nat) (k : Nat) = true ∧ decide (0 ≤ typeI t f r) = true := by
   intro r hr
   obtain ⟨n, hn, e⟩ := List.getElem_of_mem hr
   have := hh n hn
   rw [okAt_eq (show (usesOf x)[n]? = some r by rw [List.getElem?_eq_getElem hn, e]), hk, Bool.and_eq_true] at this
   exact this
  exact ⟨fun r hr => (key r hr).2, fun r hr => (key r hr).1⟩
 ·rintro ⟨h1, h2⟩ n hn
  have hu : (usesOf x)[n]? = some ((usesOf x)[n]) := List.getElem?_eq_getElem hn
  rw [okAt_eq hu, hk, Bool.and_eq_true]
  exact ⟨h2 _ (List.getElem_mem hn), h1 _ (List.getElem_mem hn)⟩
theorem reads_phi {t : List Ty} {f : Fx} {x : Ix} {bk k : Nat} (h : x.op = 22) (hl : x.frm.length = x.args.length) (hf : ∀ c ∈ x.frm, 0 ≤ c) : readsB t f x bk k = true ↔ typesB t f (usesOf x) = true ∧ ((x.frm.zip x.args).all fun q => isSetL (parOf t f.sig) f.blocks q.2 q.1 (insAt f.blocks q.1.toNat).length) = true := by
 have hk : ∀ n u c, x.frm[n]? = some c → okR t f x bk k n u = (isSetL (parOf t f.sig) f.blocks u c (insAt f.blocks c.toNat).length && decide (0 ≤ typeI t f u)) := fun n u c hc => by
  have h0 := hf c (List.mem_of_getElem? hc)
  have e : plB x bk n = c.toNat := by unfold plB; rw [if_pos h, hc]; rfl
  have e2 : plP f.blocks x bk k n = (insAt f.blocks c.toNat).length := by unfold plP; rw [if_pos h, e]
  unfold okR; rw [e, e2, Int.toNat_of_nonneg h0]
 have hus : usesOf x = x.args := SzR.uses_phi h
 unfold readsB typesB
 rw [hus]
 simp only [List.all_eq_true, List.mem_range]
 constructor
 ·intro hh
  have key : ∀ n (hn : n < x.args.length), isSetL (parOf t f.sig) f.blocks x.args[n] (x.frm[n]'(by omega)) (insAt f.blocks (x.frm[n]'(by omega)).toNat).length = true ∧ decide (0 ≤ typeI t f x.args[n]) = true := by
   intro n hn
   have := hh n hn
   rw [okAt_eq (show (usesOf x)[n]? = some x.args[n] by rw [hus, List.getElem?_eq_getElem hn]), hk n _ _ (List.getElem?_eq_getElem (show n < x.frm.length by omega)), Bool.and_eq_true] at this
   exact this
  refine ⟨fun r hr => ?_, fun q hq => ?_⟩
  ·obtain ⟨n, hn, e⟩ := List.getElem_of_mem hr
   rw [← e]; exact (key n hn).2
  ·obtain ⟨n, hn, e⟩ := List.getElem_of_mem hq
   have hn2 : n < x.args.length := by rw [List.length_zip] at hn; omega
   rw [← e, List.getElem_zip]
   exact (key n hn2).1
 ·rintro ⟨h1, h2⟩ n hn
  have hnf : n < x.frm.length := by omega
  rw [okAt_eq (show (usesOf x)[n]? = some x.args[n] by rw [hus, List.getElem?_eq_getElem hn]), hk n _ _ (List.getElem?_eq_getElem hnf), Bool.and_eq_true]
  refine ⟨?_, h1 _ (List.getElem_mem hn)⟩
  have hz : n < (x.frm.zip x.args).length := by rw [List.length_zip]; omega
  have := h2 _ (List.getElem_mem hz)
  rw [List.getElem_zip] at this
  exact this
theorem right_is {p : Px} {f : Fx} (hc : chkP p = 0) (ho : POk p) (hf : f ∈ p.funcs) {bk k : Nat} (hb : bk < f.blocks.length) (hk : k < (insAt f.blocks bk).length) : rightB p f bk k = okI p f bk k := by
 have hx : (insAt f.blocks bk)[k]? = some (insOf f.blocks bk k) := by unfold insOf; rw [List.getElem?_eq_getElem hk]; rfl
 obtain ⟨c, hcm, hxm⟩ := insAt_mem hx hb
 have hi := ins_ok hc ho hf hcm hxm
 unfold rightB okI okJ
 generalize insOf f.blocks bk k = x at *
 by_cases h22 : x.op = 22
 ·rw [if_pos h22, if_pos h22]
  have hr := reads_phi (t := p.types) (f := f) (bk := bk) (k := k) h22 (hi.phi h22).1 (fun c hc => ((hi.phi h22).2.2.2 c hc).1)
  unfold phiB phC
  cases ht : typesB p.types f (usesOf x) with
  | false =>
   rw [ht] at hr
   have : readsB p.types f x bk k = false := by rw [← Bool.not_eq_true]; intro h; exact absurd (hr.1 h).1 (by simp)
   rw [this]; simp
  | true =>
   rw [ht] at hr
   unfold typesL
   rw [if_pos ht]
   cases hz : (x.frm.zip x.args).all fun q => isSetL (parOf p.types f.sig) f.blocks q.2 q.1 (insAt f.blocks q.1.toNat).length with
   | false =>
    rw [hz] at hr
    have : readsB p.types f x bk k = false := by rw [← Bool.not_eq_true]; intro h; exact absurd (hr.1 h).2 (by simp)
    rw [this]; simp
   | true =>
    rw [hz] at hr
    rw [hr.2 ⟨rfl, rfl⟩]
    simp only [Bool.true_and, Bool.and_true]
    rw [Bool.and_comm, Bool.and_comm (decide (x.frm = _))]
 ·rw [if_neg h22, if_neg h22]
  have hr := reads_other (t := p.types) (f := f) (bk := bk) (k := k) h22
  cases ht : typesB p.types f (usesOf x) with
  | false =>
   rw [ht] at hr
   have : readsB p.types f x bk k = false := by rw [← Bool.not_eq_true]; intro h; exact absurd (hr.1 h).1 (by simp)
   rw [this]; simp
  | true =>
   rw [ht] at hr
   unfold typesL
   rw [if_pos ht]
   cases hz : setsB (parOf p.types f.sig) f.blocks (usesOf x) bk k with
   | false =>
    rw [hz] at hr
    have : readsB p.types f x bk k = false := by rw [← Bool.not_eq_true]; intro h; exact absurd (hr.1 h).2 (by simp)
    rw [this]; simp
   | true =>
    rw [hz] at hr
    rw [hr.2 ⟨rfl, rfl⟩]
    simp
/-- A FUNCTION IS WELL FORMED AS THE CODE ASKS JUST IF IT IS AS THE DOCUMENT ASKS -/
theorem fn_is {p : Px} {f : Fx} (hc : chkP p = 0) (ho : POk p) (hf : f ∈ p.funcs) : fnB p f = fnC p f := by
 obtain ⟨hlow, hpos, _⟩ := low_of hc ho hf
 unfold fnB fnC
 congr 1
 rw [Bool.eq_iff_iff]
 unfold blocksC blockC insC
 simp only [Bool.and_eq_true, decide_eq_true_eq, List.all_eq_true, List.mem_range]
 constructor
 ·intro h
  refine ⟨List.eq_nil_iff_forall_not_mem.2 fun a ha => ?_, fun b hb => ⟨fun k hk => ?_, ?_⟩⟩
  ·obtain ⟨hal, hm⟩ := ahead_mem.1 ha
   have h2 := (h a hal).2
   rw [end_is, Bool.and_eq_true] at h2
   exact of_decide_eq_true h2.2 ((succ_mem hlow hal).1 hm)
  ·rw [← right_is hc ho hf hb hk]
   exact (h b hb).1 k hk
  ·have h2 := (h b hb).2
   rw [end_is, Bool.and_eq_true] at h2
   exact h2.1
 ·rintro ⟨h0, h⟩ b hb
  refine ⟨fun k hk => ?_, ?_⟩
  ·rw [right_is hc ho hf hb hk]
   exact (h b hb).1 k hk
  ·rw [end_is, Bool.and_eq_true]
   refine ⟨(h b hb).2, decide_eq_true fun hm => ?_⟩
   have : b ∈ aheadL f.blocks 0 := ahead_mem.2 ⟨hb, (succ_mem hlow hb).2 hm⟩
   rw [h0] at this
   cases this
def formC (p : Px) : Bool := firstB p && p.funcs.all (fnC p)
theorem snd_is {p : Px} (ho : POk p) : sndE p = if chkP p ≠ 0 then chkP p else if formC p = true then 0 else 120 := by
 unfold sndE formC
 by_cases hc : chkP p = 0
 ·rw [if_neg (show ¬ chkP p ≠ 0 from fun e => e hc), if_neg (show ¬ chkP p ≠ 0 from fun e => e hc)]
  have he : p.funcs.all (fnB p) = p.funcs.all (fnC p) := by
   rw [Bool.eq_iff_iff, List.all_eq_true, List.all_eq_true]
   exact ⟨fun h f hf => (fn_is hc ho hf) ▸ h f hf, fun h f hf => (fn_is hc ho hf).symm ▸ h f hf⟩
  rw [he]
  cases p.funcs.all (fnC p) <;> cases firstB p <;> simp
 ·rw [if_pos hc, if_pos hc]
theorem place_range {p : Px} {f r : Int} (h : placeE p f r = 0) : ∃ (k : Nat) (x : Fx), f = k ∧ Has1 p k k x ∧ 0 ≤ r ∧ r < ((parOf p.types x.sig + manyB x.blocks : Nat) : Int) := by
 unfold placeE at h
 by_cases hf : findP p f = 0
 ·rw [if_neg (fun e => e hf)] at h
  by_cases hr : 0 ≤ r ∧ r < cntP p f
  ·obtain ⟨k, x, h1⟩ := has1 hf
   have e := h1.eq
   subst e
   rw [cnt_at h1] at hr
   exact ⟨k, x, rfl, h1, hr⟩
  ·rw [if_neg hr] at h; omega
 ·rw [if_pos hf] at h; exact absurd h hf
end Go.Proofs.YtpejpnffcepdlaaGreatDoor.SzZ
