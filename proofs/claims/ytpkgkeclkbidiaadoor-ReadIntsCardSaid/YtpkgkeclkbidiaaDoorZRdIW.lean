/- Walk over fescuelaw07.ReadInts. -/
import Derived.Test.YtpkgkeclkbidiaaDoorZRcYToRdNW
import Derived.Test.YtpkgkeclkbidiaaDoorZNumLW
namespace Go.Proofs.YtpkgkeclkbidiaaDoor.RdIW
open Go.RowKit Go.Lib RwO SetP IntO TyM TyP TyB ShM ShP ShB LxM LxP LxJ RdM RdV Aft RcP RcO RcT RcY RcZ RdFa RdIn

theorem i64_of {n : Int} (h : (Lit.int .i64 n).wf = true) : NumP.I64 n := by
  simpa [NumP.I64, Lit.wf, IntKind.min, IntKind.max, IntKind.signed, IntKind.bits] using h
theorem add_mk (x y : List UInt8) (hx : x.length ≤ 100000) (hy : y.length ≤ 100000) (w : World) : (Op.stringOp .add (mk x) (mk y)).run Tryd.prog w = .ok (.string (mk (x ++ y))) w :=
  run_string_add_lists w x y (by omega) (by omega)
theorem eq_str (s t : ByteArray) : (s.toList == t.toList) = decide (s = t) := by
  rw [Lib.toList_data, Lib.toList_data, Bool.eq_iff_iff, beq_iff_eq, decide_eq_true_iff]
  constructor
  · intro h
    have h2 : mk (un s) = mk (un t) := congrArg mk h
    rwa [LxJ.mk_un, LxJ.mk_un] at h2
  · rintro rfl; rfl
set_option maxRecDepth 100000 in
set_option maxHeartbeats 4000000 in
theorem walk (n : Int) (wn : (Lit.int .i64 n).wf = true) (s : ByteArray) (_ : s.size ≤ maxLen) (w : World) (hk : LxK.Tab w) (htab : ShA.Tab w) (hto : TabO w) (hpw : NumL.Tab w) :
    Calls Tryd.prog 6 #[.int .i64 n, .string s] w fun e w' => e = .returned (.bool true) ∧ Below w.heap.size w w' := by
  have hI := i64_of wn
  clear wn
  have HAL := hid (RdAl.alive_calls w hk htab hto)
  unfold BoolR at HAL
  have HW := hid (Aft.refl w)
  by_cases h3 : 30 < s.size
  · have h3' : (30 : Int) < s.size := by omega
    clear h3
    go_enter Tryd.func6, Tryd.ntmps6
    go_wp2_with fail
    refine HAL.out.mono ?_
    rintro e w1 ⟨rfl, b1⟩
    go_wp2
    go_ret
    exact ⟨rfl, b1⟩
  have h3' : ¬ (30 : Int) < s.size := by omega
  have hsz : s.size ≤ 30 := by omega
  have HSZ := hid hsz
  clear h3 hsz
  obtain ⟨hi1, hi2⟩ := NumP.itoa_length n hI
  have hla : intA.length ≤ 100 := by decide
  have hlb : intB.length ≤ 100 := by decide
  have hus : (un s).length ≤ 30 := by rw [un_len]; exact HSZ.out
  have HT := hid (fun wx => RdOd.text_calls (intA ++ itoa n ++ intB) (by simp only [List.length_append]; omega) wx)
  have HT2 := hid (fun wx => RdOd.text_calls (intA ++ un s ++ intB) (by simp only [List.length_append]; omega) wx)
  have HR := hid (fun wx (h : Aft w wx) => read_calls (mk (intT (itoa n))) wx (LxK.tab_on hk h.below) (htab.on h.below) (hto.on h.below))
  unfold ReadO at HR
  rw [show readO (un (mk (intT (itoa n)))) = (0, chapN n) from (congrArg readO (LxJ.un_mk _)).trans (by rw [read_int (may_itoa n) (by omega), NumP.rd_itoa hI]; rfl)] at HR
  simp only at HR
  have HN := hid (fun wx (h : Aft w wx) => NumL.write_calls n hI wx (hpw.on h.below))
  have HL := hid (fun wx (h : Aft w wx) => lines_at s wx (LxK.tab_on hk h.below))
  have HNR := hid (fun wx => NumF.read_calls s (by have := HSZ.out; omega) wx)
  have HO := hid (fun wx (h : Aft w wx) => RdOd.odd_calls (mk (intT (un s))) 70 wx (LxK.tab_on hk h.below) (htab.on h.below) (hto.on h.below))
  have hadd1 : ∀ wx, (Op.stringOp .add ⟨intA.toArray⟩ ⟨(itoa n).toArray⟩).run Tryd.prog wx = .ok (.string (mk (intA ++ itoa n))) wx := fun wx => add_mk intA (itoa n) (by omega) (by omega) wx
  have hadd2 : ∀ wx, (Op.stringOp .add (mk (intA ++ itoa n)) ⟨intB.toArray⟩).run Tryd.prog wx = .ok (.string (mk (intA ++ itoa n ++ intB))) wx := fun wx => add_mk (intA ++ itoa n) intB (by rw [List.length_append]; omega) (by omega) wx
  have hadd3 : ∀ wx, (Op.stringOp .add ⟨intA.toArray⟩ s).run Tryd.prog wx = .ok (.string (mk (intA ++ un s))) wx := fun wx => by
    have := add_mk intA (un s) (by omega) (by omega) wx
    rwa [LxJ.mk_un] at this
  have hadd4 : ∀ wx, (Op.stringOp .add (mk (intA ++ un s)) ⟨intB.toArray⟩).run Tryd.prog wx = .ok (.string (mk (intA ++ un s ++ intB))) wx := fun wx => add_mk (intA ++ un s) intB (by rw [List.length_append]; omega) (by omega) wx
  rw [show mk (RdOd.preL ++ (intA ++ itoa n ++ intB)) = mk (intT (itoa n)) from rfl] at HT
  rw [show mk (RdOd.preL ++ (intA ++ un s ++ intB)) = mk (intT (un s)) from rfl] at HT2
  have HWD : Hid (∀ L : List (List ByteArray), mkL (lnT (un s)) = L → lnE (un s) = 0 → L = [[s]] → (NumP.rd (un s)).2 ≠ 0 → RdOd.oddB (un (mk (intT (un s)))) 70 = true) := fun L hL h0 h1 hr => by
    subst hL
    have h2 : lnT (un s) = [[un s]] := by
      have := congrArg unL h1
      rwa [unL_mkL] at this
    rw [lnT_ok h0] at h2
    have h4 : [un s] ∈ (allW (un s)).filter full := by rw [h2]; exact List.mem_singleton.2 rfl
    have h5 := (all_ok (un s)).1 _ (List.mem_filter.1 h4).1 (un s) (List.mem_singleton.2 rfl)
    show RdOd.oddR (readO _) 70 = true
    rw [LxJ.un_mk, read_int h5 (by omega), if_neg hr]
    decide
  clear hi1 hi2 hla hlb hus hk htab hto hpw hI
  generalize mk (intT (itoa n)) = z3 at *
  generalize mk (intA ++ itoa n ++ intB) = z2 at *
  generalize mk (intA ++ itoa n) = z1 at *
  generalize (⟨(itoa n).toArray⟩ : ByteArray) = zn at *
  generalize mk (intT (un s)) = y3 at *
  generalize mk (intA ++ un s ++ intB) = y2 at *
  generalize mk (intA ++ un s) = y1 at *
  unfold intA at hadd1 hadd3
  unfold intB at hadd2 hadd4
  unfold NumR.RdPost at HNR
  unfold LnA at HL
  rw [show s.data.toList = un s from rfl] at HNR
  have e1 : (n != n) = false := by simp
  go_enter Tryd.func6, Tryd.ntmps6
  go_wp2_with fail
  refine HAL.out.mono ?_
  rintro e w1 ⟨rfl, b1⟩
  have HW1 := hid (HW.out.go b1)
  clear b1 HW HAL
  go_wp2_with fail
  refine (HN.out w1 HW1.out).mono ?_
  rintro e w2 ⟨rfl, b2⟩
  have HW2 := hid (HW1.out.go b2)
  clear b2 HW1 HN
  go_wp2_with fail
  refine (HT.out w2).mono ?_
  rintro e w0 ⟨rfl, hw0⟩
  rw [hw0]
  clear hw0 w0 HT
  go_wp2_with fail
  refine (HR.out w2 HW2.out).mono ?_
  rintro e w3 ⟨v, rfl, hp, b3⟩
  obtain ⟨vt, vf, rfl, hvt, hvf⟩ := hp
  obtain ⟨ta, tc, hta⟩ := hvt.slice
  obtain ⟨fa, fc, hfa, _⟩ := hvf.slice
  have hta2 : vt = .slice ta 2 tc := hta
  have hfa2 : vf = .slice fa 1 fc := hfa
  clear hta hfa
  subst hta2
  subst hfa2
  obtain ⟨W4, hW4⟩ : ∃ W4, W4 = w3.alloc (.cells #[.slice ta 2 tc, .slice fa 1 fc] 25) := ⟨_, rfl⟩
  have k4 : W4.heap[w3.heap.size]? = some (.cells #[.slice ta 2 tc, .slice fa 1 fc] 25 (0, 0)) := by rw [hW4]; exact ShB.alloc_new _ _
  have hA4 : Aft w W4 := by rw [hW4]; exact (HW2.out.go b3).alloc _
  have h34 : Below w3.heap.size w3 W4 := by rw [hW4]; exact ShP.alloc_below _ _
  have hvf4 := hvf.below fnStays h34
  obtain ⟨fb, foff, hfa3, _, vb, _, c1, hbl⟩ := hvf4.at 0 (show 0 < 1 by decide)
  obtain ⟨ba, bc, hba, _⟩ := hbl.slice
  have hba2 : vb = .slice ba 2 bc := hba
  clear hba
  subst hba2
  obtain ⟨bb, boff, hbb, _, vi, d0, _, _, _, _, hin⟩ := hbl.at 1 (show 1 < 2 by decide)
  obtain ⟨ia, ic, hia, _⟩ := hin.slice
  have hia2 : vi = .slice ia 1 ic := hia
  clear hia
  subst hia2
  obtain ⟨ib, ioff, hib, _, va, vg, _, _, _, _, f4, _⟩ := hin.at 0 (show 0 < 1 by decide)
  subst hfa3 hbb hib
  have x0 := RdB.cells_of k4 0 _ rfl
  have x1 := RdB.cells_of k4 1 _ rfl
  have c1' : W4.cell? ⟨fb, foff + 1, none⟩ = some (.slice (some ⟨bb, boff, none⟩) 2 bc) := c1
  have d0' : W4.cell? ⟨bb, boff + 5, none⟩ = some (.slice (some ⟨ib, ioff, none⟩) 1 ic) := d0
  have f4' : W4.cell? ⟨ib, ioff + 4, none⟩ = some (.int .i64 n) := f4
  have HW4 := hid hW4
  have HA4 := hid hA4
  clear hW4 k4 hA4 h34 hvf4 hvt hvf c1 d0 f4 hbl hin b3 HR HW2
  go_upto_region 5 with fail
  rw [← HW4.out]
  clear HW4
  go_wp2_with fail
  refine (HL.out W4 HA4.out).mono ?_
  rintro e w5 ⟨u, rfl, hli, b5⟩
  have HW5 := hid (HA4.out.go b5)
  have HLI := hid hli
  clear hli b5 HA4 HL x0 x1 c1' d0' f4'
  go_wp2_with fail
  refine (HNR.out w5).mono ?_
  rintro e w6 ⟨rfl, b6⟩
  have HW6 := hid (HW5.out.go b6)
  have HLI6 := hid (HLI.out.below b6)
  obtain ⟨ua, uc, rfl, hul⟩ := HLI6.out.slice
  clear b6 HNR HW5 HLI
  generalize mkL (lnT (un s)) = L at *

  rcases lnE_cases (un s) with hle | hle
  rotate_left
  · rw [hle]
    generalize (NumP.rd (un s)) = rr at *
    clear hle
    go_wp2
    go_ret
    exact ⟨rfl, HW6.out.below⟩
  have HLE := hid hle
  rw [hle]
  clear hle
  by_cases h1 : L.length = 1
  rotate_left
  · have hn1 : ((L.length : Int) != 1) = true := by simp; omega
    generalize (NumP.rd (un s)) = rr at *
    clear h1
    go_wp2
    go_ret
    exact ⟨rfl, HW6.out.below⟩
  obtain ⟨x, hx⟩ : ∃ x, L = [x] := by
    match L, h1 with
    | [x], _ => exact ⟨x, rfl⟩
  have hli := HLI6.out
  rw [h1] at hli ⊢
  obtain ⟨lb, loff, pv, hlb, _, c0, hst⟩ := hli.at 0 (by omega)
  subst hlb
  have hst2 : StrsAt w6 pv x := by
    subst hx
    exact hst
  have c0' : w6.cell? ⟨lb, loff, none⟩ = some pv := c0
  obtain ⟨xa, xc, rfl, _⟩ := hst2.slice
  have HX := hid hx
  clear hli c0 hst h1 hx HLI6 hul
  by_cases h2 : x.length = 1
  rotate_left
  · have hn2 : ((x.length : Int) != 1) = true := by simp; omega
    generalize (NumP.rd (un s)) = rr at *
    clear h2
    go_wp2
    go_ret
    exact ⟨rfl, HW6.out.below⟩
  obtain ⟨y, hy⟩ : ∃ y, x = [y] := by
    match x, h2 with
    | [y], _ => exact ⟨y, rfl⟩
  rw [h2] at c0' hst2
  obtain ⟨yb, yoff, hyb, _, d1⟩ := hst2.at 0 (by omega)
  subst hyb
  have d1' : w6.cell? ⟨yb, yoff, none⟩ = some (.string y) := by
    subst hy
    exact d1
  have HY := hid hy
  clear hst2 d1 h2 hy
  have e2 := eq_str y s
  by_cases h4 : y = s
  rotate_left
  · rw [decide_eq_false h4] at e2
    generalize (NumP.rd (un s)) = rr at *
    clear h4
    go_wp2
    go_ret
    exact ⟨rfl, HW6.out.below⟩
  rw [decide_eq_true h4] at e2
  have HYS := hid h4
  clear h4
  by_cases h5 : (NumP.rd (un s)).2 = 0
  · have hr : ((NumP.rd (un s)).2 == 0) = true := by simpa using h5
    generalize (NumP.rd (un s)) = rr at *
    clear h5
    go_wp2
    go_ret
    exact ⟨rfl, HW6.out.below⟩
  have hr : ((NumP.rd (un s)).2 == 0) = false := by simpa using h5
  have ho := HO.out w6 HW6.out
  rw [HWD.out L rfl HLE.out (by rw [HX.out, HY.out, HYS.out]) h5] at ho
  unfold BoolR at ho
  have HO6 := hid ho
  clear h5 ho HO HWD
  generalize (NumP.rd (un s)) = rr at *
  go_wp2_with fail
  refine (HT2.out w6).mono ?_
  rintro e w0 ⟨rfl, hw0⟩
  rw [hw0]
  clear hw0 w0 HT2
  go_wp2_with fail
  refine HO6.out.mono ?_
  rintro e w7 ⟨rfl, b7⟩
  have hb := HW6.out.go b7
  go_wp2
  go_ret
  exact ⟨rfl, hb.below⟩
end Go.Proofs.YtpkgkeclkbidiaaDoor.RdIW
