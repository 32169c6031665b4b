/- Walk over fescuelaw06.ShapeUses. -/
import Derived.Test.YtaegidmodenomaaDoorShU
import Derived.Test.YtaegidmodenomaaDoorShV
import Derived.Test.YtaegidmodenomaaDoorShW
import Derived.Test.YtaegidmodenomaaDoorTyRE
import Derived.Test.YtaegidmodenomaaDoorTyW
import Derived.Deep.RegionHeld3
import Derived.Test.YtaegidmodenomaaDoorShF
namespace Go.Proofs.YtaegidmodenomaaDoor.ShUW
open Go.RowKit Go.Lib SetP IntO TyM TyP TyB TyQ TyRE TyW ShM ShP ShA ShB ShU ShV ShW ShF

theorem intVals_at {l : List Int} {i : Nat} (h : i < l.length) : (intVals l)[i]? = some (.int .i64 l[i]) := by simp [intVals, h]
theorem intVals_set (l : List Int) (i : Nat) (n : Int) : (intVals l).set i (.int .i64 n) = intVals (l.set i n) := by simp [intVals, List.map_set]

set_option maxRecDepth 100000 in
set_option maxHeartbeats 8000000 in
theorem walk (W : World) (x : Ix) (va vf : Value) (y : Ex) (hx : IntsAt W va x.args) (hf : IntsAt W vf x.frm) (h0 : 0 ≤ x.op ∧ x.op ≤ 255) (k0 : 0 ≤ y.kind ∧ y.kind ≤ 255) (ht : Tab W) :
    Calls Tryd.prog 6 #[ixV x va vf, exV y] W fun e W' => e = .returned (.bool true) ∧ Below W.heap.size W W' := by
  have HX := hid hx
  have HT := hid ht
  obtain ⟨fa, fc, rfl, hlf⟩ := ints_slice hf
  obtain ⟨pa, pc, rfl, hla⟩ := ints_slice hx
  clear hx hf ht
  by_cases hlen : 100 < x.args.length
  · clear HX HT
    obtain ⟨op, ty, a, b, n, xp, xm⟩ := x
    obtain ⟨yk, ya, yt, ye⟩ := y
    simp only at *
    generalize xp.length = nl at *
    generalize xm.length = nm at *
    have hb0 : Below W.heap.size W ((W.alloc (.cells #[.int .u8 op, .int .i64 ty, .int .i64 a, .int .i64 b, .int .i64 n, .slice pa nl pc, .slice fa nm fc] 25)).alloc (.cells #[.int .u8 yk, .int .i64 ya, .int .i64 yt, .int .i64 ye] 35)) := (alloc_below _ _).alloc (by simp) _
    go_enter Tryd.func6, Tryd.ntmps6
    go_wp2
    go_ret
    exact ⟨rfl, hb0⟩
  · have C1 := hid (fun (v : Value) (wx : World) (hb : Below W.heap.size W wx) (hv : IntsAt wx v x.args) => uses_calls x v (.slice fa x.frm.length fc) wx h0.1 h0.2 (HT.out.on hb) hv (by omega) ⟨_, _, _, rfl⟩)
    have C2 := hid (fun (wx : World) (hb : Below W.heap.size W wx) => answers_calls x.op h0.1 h0.2 wx (HT.out.on hb))
    have C3 := hid (fun (wx : World) => answersR_calls x.op h0.1 h0.2 wx)
    have C4 := hid (fun (wx : World) (hb : Below W.heap.size W wx) => usesR_calls x (.slice pa x.args.length pc) (.slice fa x.frm.length fc) wx h0.1 h0.2 (HX.out.below hb) (by omega) ⟨_, _, _, rfl⟩)
    have C5 := hid (fun (wx : World) (hb : Below W.heap.size W wx) => ends_calls y wx k0.1 k0.2 (HT.out.on hb))
    have C6 := hid (fun (wx : World) => endsR_calls y wx k0.1 k0.2)
    have HU : Hid ((usesOf x).length ≤ 110) := by
      show _ ≤ _
      unfold usesOf
      repeat' split
      all_goals (simp; try omega)
    generalize usesOf x = us at *
    generalize answersB x.op = an at *
    have HEL : Hid ((endsOf y).length ≤ 110) := by
      show _ ≤ _
      unfold endsOf
      split <;> simp
    generalize endsOf y = en at *
    have HLN := hid hlen
    clear h0 k0 HT
    obtain ⟨op, ty, a, b, n, xp, xm⟩ := x
    obtain ⟨yk, ya, yt, ye⟩ := y
    simp only at *
    have HSS := hid (fun (v : Value) (wx : World) (hv : IntsAt wx v xp) (hb : Below W.heap.size W wx) => sameInts_calls v (.slice pa xp.length pc) xp xp wx hv (HX.out.below hb))
    rw [decide_eq_true rfl] at HSS
    generalize hnl : xp.length = nl at *
    generalize xm.length = nm at *
    have HNL := hid hnl
    clear hnl
    obtain ⟨W3, hW3⟩ : ∃ W3 : World, W3 = ((W.alloc (.cells #[.int .u8 op, .int .i64 ty, .int .i64 a, .int .i64 b, .int .i64 n, .slice pa nl pc, .slice fa nm fc] 25)).alloc (.cells #[.int .u8 yk, .int .i64 ya, .int .i64 yt, .int .i64 ye] 35)).alloc (.cells #[.int .u8 op, .int .i64 ty, .int .i64 a, .int .i64 b, .int .i64 n, .slice pa nl pc, .slice fa nm fc] 25) := ⟨_, rfl⟩
    have HW3 := hid hW3
    have HSZ : Hid (W3.heap.size = W.heap.size + 1 + 1 + 1) := by show _ = _; rw [hW3]; simp only [World.size_alloc]
    have HB3 : Hid (Below W.heap.size W W3) := by show Below _ _ _; rw [hW3]; exact ((alloc_below _ _).alloc (by simp) _).alloc (by simp only [World.size_alloc]; omega) _
    have HX1 : Hid (W3.heap[W.heap.size]? = some (.cells #[.int .u8 op, .int .i64 ty, .int .i64 a, .int .i64 b, .int .i64 n, .slice pa nl pc, .slice fa nm fc] 25 (0, 0))) := by show _ = _; rw [hW3]; exact alloc_old (alloc_old (alloc_new _ _) _) _
    have HX2 : Hid (W3.heap[W.heap.size + 1]? = some (.cells #[.int .u8 yk, .int .i64 ya, .int .i64 yt, .int .i64 ye] 35 (0, 0))) := by
      show _ = _
      rw [hW3]
      have := alloc_new (W.alloc (.cells #[.int .u8 op, .int .i64 ty, .int .i64 a, .int .i64 b, .int .i64 n, .slice pa nl pc, .slice fa nm fc] 25)) (.cells #[.int .u8 yk, .int .i64 ya, .int .i64 yt, .int .i64 ye] 35)
      rw [World.size_alloc] at this
      exact alloc_old this _
    have HX3 : Hid (W3.heap[W.heap.size + 1 + 1]? = some (.cells #[.int .u8 op, .int .i64 ty, .int .i64 a, .int .i64 b, .int .i64 n, .slice pa nl pc, .slice fa nm fc] 25 (0, 0))) := by
      show _ = _
      rw [hW3]
      have := alloc_new ((W.alloc (.cells #[.int .u8 op, .int .i64 ty, .int .i64 a, .int .i64 b, .int .i64 n, .slice pa nl pc, .slice fa nm fc] 25)).alloc (.cells #[.int .u8 yk, .int .i64 ya, .int .i64 yt, .int .i64 ye] 35)) (.cells #[.int .u8 op, .int .i64 ty, .int .i64 a, .int .i64 b, .int .i64 n, .slice pa nl pc, .slice fa nm fc] 25)
      simp only [World.size_alloc] at this
      exact this
    have ho0 := World.ownsRow_made (base := W3.heap.size) (e := 3) (size := 1) W3 #[] 0 (Nat.le_refl _) (by decide) (by simp)
    have HOW0 : Hid ((W3.alloc (.cells #[] 3)).ownsRow (W.heap.size + 1 + 1 + 1) 3 1 (.slice (some ⟨W.heap.size + 1 + 1 + 1, 0, none⟩) 0 0) 0 []) := by show World.ownsRow _ _ _ _ _ _ _; rw [← HSZ.out]; exact ho0
    have hb4 : Below W3.heap.size W3 (W3.alloc (.cells #[] 3)) := alloc_below _ _
    have HX4 := hid (HX.out.below (HB3.out.trans (hb4.mono HB3.out.size)))
    have hbs4 : W.heap.size + 1 + 1 + 1 ≤ (W3.alloc (.cells #[] 3)).heap.size := by rw [World.size_alloc, HSZ.out]; omega
    have HB4 := hid hb4
    clear hW3 ho0 hb4
    go_enter Tryd.func6, Tryd.ntmps6
    go_wp2_with (at_builtin; rw [← HW3.out]; refine wpList_clone_ints rfl (.tmp 14) (.tmp 16) rfl (W.heap.size + 1 + 1 + 1) (.slice (some ⟨W.heap.size + 1 + 1 + 1, 0, none⟩) 0 0) rfl HOW0.out (.slice pa nl pc) xp rfl HX4.out (by have := HNL.out; omega) hbs4 ?_)
    intro v' m w1 hv' hb'
    have hb31 : Below W3.heap.size W3 w1 := HB4.out.trans (hb'.mono (Nat.le_of_eq HSZ.out))
    obtain ⟨f3, g3, s3, k3⟩ := copyF HX3.out hb31 (by rw [HSZ.out]; omega)
    have e5 := f3 5 (by simp)
    have z5 := g3 5
    simp only [List.getElem_toArray, List.getElem_cons_succ, List.getElem_cons_zero] at e5
    obtain ⟨qa, qc, rfl⟩ := own_slice hv'
    have hlen' : m = xp.length := by have := hv'.1; rw [intVals_length] at this; omega
    obtain ⟨w2, hw2⟩ : ∃ w2 : World, w2 = w1.setCell ⟨W.heap.size + 1 + 1, 5, none⟩ (.slice qa m qc) := ⟨_, rfl⟩
    have HW2 := hid hw2
    have hsz2 : w2.heap.size = w1.heap.size := by rw [hw2]; exact TyD.size_set _ _ _
    have HB2 : Hid (Below W.heap.size W w2) := by
      show Below _ _ _
      rw [hw2]
      exact (HB3.out.trans (hb31.mono HB3.out.size)).setCell (p := ⟨W.heap.size + 1 + 1, 5, none⟩) (by show W.heap.size ≤ W.heap.size + 1 + 1; omega) _
    have HK1 : Hid (w2.heap[W.heap.size]? = some (.cells #[.int .u8 op, .int .i64 ty, .int .i64 a, .int .i64 b, .int .i64 n, .slice pa nl pc, .slice fa nm fc] 25 (0, 0))) := by
      show _ = _
      rw [hw2, set_block (by omega)]
      exact (copyF HX1.out hb31 (by rw [HSZ.out]; omega)).2.2.2
    have HK2 : Hid (w2.heap[W.heap.size + 1]? = some (.cells #[.int .u8 yk, .int .i64 ya, .int .i64 yt, .int .i64 ye] 35 (0, 0))) := by
      show _ = _
      rw [hw2, set_block (by omega)]
      exact (copyF HX2.out hb31 (by rw [HSZ.out]; omega)).2.2.2
    have HK3 : Hid (w2.heap[W.heap.size + 1 + 1]? = some (.cells #[.int .u8 op, .int .i64 ty, .int .i64 a, .int .i64 b, .int .i64 n, .slice qa m qc, .slice fa nm fc] 25 (0, 0))) := by
      show _ = _
      rw [hw2]
      have := set_heap' (i := 5) (.slice qa m qc) k3
      simpa using this
    have hks : w1.grownBy w2 (some (W.heap.size + 1 + 1)) := by
      rw [hw2]
      exact ⟨rfl, rfl, rfl, (by simp [World.setCell]), fun j hj hne => Below.heap_setCell _ _ _ j (fun e => hne (by rw [e]))⟩
    have hne : (Value.slice qa m qc).ownBlock ≠ some (W.heap.size + 1 + 1) := by
      intro hg
      have := (hv'.lt _ hg).1
      omega
    have HV : Hid (IntsAt w2 (.slice qa m qc) xp) := intsAt_of_owns (hv'.kept hks (.inr hne)) (by have := HNL.out; omega)
    have HC1 := hid (C1.out (.slice qa m qc) w2 HB2.out HV.out)
    subst hlen'
    clear hw2 hsz2 hks hne hv' hb' hb31 f3 g3 k3 HX1 HX2 HX3 HX4 HOW0 HB4 HB3 C1 HSZ hbs4
    go_upto_region 5 with fail
    rw [← HW2.out]
    have hz := HB2.out.size
    obtain ⟨r1, _, s1, _⟩ := copyF HK1.out (Below.refl w2.heap.size w2) (Array.getElem?_eq_some_iff.1 HK1.out).1
    obtain ⟨r2, _, s2, _⟩ := copyF HK2.out (Below.refl w2.heap.size w2) (Array.getElem?_eq_some_iff.1 HK2.out).1
    obtain ⟨r3, _, s3, _⟩ := copyF HK3.out (Below.refl w2.heap.size w2) (Array.getElem?_eq_some_iff.1 HK3.out).1
    have t0 := r3 0 (by simp); have t1 := r3 1 (by simp); have t2 := r3 2 (by simp); have t3 := r3 3 (by simp); have t4 := r3 4 (by simp); have t5 := r3 5 (by simp); have t6 := r3 6 (by simp)
    simp only [List.getElem_toArray, List.getElem_cons_succ, List.getElem_cons_zero] at t0 t1 t2 t3 t4 t5 t6
    clear r1 r2 r3 e5 z5 HW2 HW3
    go_wp2_with fail
    refine HC1.out.mono ?_
    rintro e w3 ⟨u, mu, rfl, hu, hb3⟩
    have hu' : mu = us.length := by have := hu.1; rw [intVals_length] at this; omega
    subst hu'
    have HUO := hid hu
    have HB3 := hid hb3
    obtain ⟨ua, uc, rfl⟩ := own_slice hu
    clear HC1 t0 t1 t2 t3 t4 t5 t6 s1 s2 s3
    obtain ⟨r1, _, s1, _⟩ := copyF HK1.out hb3 (Array.getElem?_eq_some_iff.1 HK1.out).1
    obtain ⟨r2, _, s2, _⟩ := copyF HK2.out hb3 (Array.getElem?_eq_some_iff.1 HK2.out).1
    have t0 := r1 0 (by simp); have t1 := r1 1 (by simp); have t2 := r1 2 (by simp); have t3 := r1 3 (by simp); have t4 := r1 4 (by simp); have t5 := r1 5 (by simp); have t6 := r1 6 (by simp)
    have y0 := r2 0 (by simp); have y1 := r2 1 (by simp); have y2 := r2 2 (by simp); have y3 := r2 3 (by simp)
    simp only [List.getElem_toArray, List.getElem_cons_succ, List.getElem_cons_zero] at t0 t1 t2 t3 t4 t5 t6 y0 y1 y2 y3
    have HBW := hid (HB2.out.trans (hb3.mono HB2.out.size))
    have HUI : Hid (∀ wx, Below w3.heap.size w3 wx → IntsAt wx (.slice ua us.length uc) us) := fun wx hx => (intsAt_of_owns hu (by have := HU.out; omega)).below hx
    clear r1 r2 hu hb3
    go_upto_region 6 with fail
    go_cut [7] (fun okv wc => okv = .bool true ∧ Below w3.heap.size w3 wc)
    case first =>
      have HOS := hid (old_start w3)
      have HB0 : Hid (Below w3.heap.size w3 w3.drew) := (Below.refl _ _).drew
      have HBWd := HBW.out.drew
      have HSU := hid (fun (u2 : Value) (m2 : Nat) (wx wy : World) (ho : wx.ownsRow 0 3 1 u2 m2 (intVals us)) (hb : Below wx.heap.size wx wy) (hx : Below w3.heap.size w3 wy) => sameInts_calls (.slice ua us.length uc) u2 us us wy (HUI.out wy hx) (intsAt_of_owns (ownsRow_below ho hb) (by have := HU.out; omega)))
      have HSE := hid (fun (v1 v2 : Value) (m1 m2 : Nat) (wx wy wz : World) (ho : wx.ownsRow 0 3 1 v1 m1 (intVals en)) (hb : Below wx.heap.size wx wz) (ho2 : wy.ownsRow 0 3 1 v2 m2 (intVals en)) (hb2 : Below wy.heap.size wy wz) => sameInts_calls v1 v2 en en wz (intsAt_of_owns (ownsRow_below ho hb) (by have := HEL.out; omega)) (intsAt_of_owns (ownsRow_below ho2 hb2) (by have := HEL.out; omega)))
      rw [decide_eq_true rfl] at HSU HSE
      have HNW : Hid (W.heap.size ≤ w3.heap.size) := HBW.out.size
      generalize hn3 : w3.heap.size = n3 at *
      have HN3 := hid hn3
      clear hn3
      have hs3 : n3 ≤ w3.heap.size := Nat.le_of_eq HN3.out.symm
      have HBT : Hid (∀ wx, Below n3 w3 wx → Below W.heap.size W wx) := fun wx h => HBW.out.trans (h.mono HNW.out)
      go_region_held3 (fun w' => n3 ≤ w'.heap.size ∧ ∀ b o, b < n3 → w'.cell? ⟨b, o, none⟩ = w3.cell? ⟨b, o, none⟩)
        (first | with_reducible exact HOS.out | with_reducible assumption | with_reducible exact old_call (by assumption) (by assumption))
        (first | (go_at_call 26; (with_reducible refine (C2.out w3.drew HBWd).mono ?_); rintro e w4 ⟨rfl, hb4⟩; have B4 := below_go HB0.out hb4 hs3; have s4 := below_size hs3 B4) | (go_at_call 27; (with_reducible refine (C3.out w4).mono ?_); rintro e w5 ⟨rfl, rfl⟩) | (go_at_call 29; (with_reducible refine (C4.out w4 (HBT.out w4 B4)).mono ?_); rintro e w6 ⟨u2, m2, rfl, ho2, hb6⟩; have B6 := below_go B4 hb6 s4; have s6 := below_size hs3 B6) | (go_at_call 28; (with_reducible refine (HSU.out u2 m2 w6 w6 (owns_base ho2 (Nat.zero_le _)) (Below.refl _ _) B6).mono ?_); rintro e w7 ⟨rfl, hb7⟩; have B7 := below_go B6 hb7 s6; have s7 := below_size hs3 B7) | (go_at_call 30; (with_reducible refine (C5.out w7 (HBT.out w7 B7)).mono ?_); rintro e w8 ⟨v1, k1, rfl, ho8, hb8⟩; have B8 := below_go B7 hb8 s7; have s8 := below_size hs3 B8) | (go_at_call 31; (with_reducible refine (C6.out w8).mono ?_); rintro e w9 ⟨v2, k2, rfl, ho9, hb9⟩; have B9 := below_go B8 hb9 s8; have s9 := below_size hs3 B9) | (go_at_call 28; (with_reducible refine (HSE.out v1 v2 k1 k2 w8 w9 w9 (owns_base ho8 (Nat.zero_le _)) hb9 (owns_base ho9 (Nat.zero_le _)) (Below.refl _ _)).mono ?_); rintro e w10 ⟨rfl, hb10⟩; have B10 := below_go B9 hb10 s9))
      all_goals
        go_wp2_with fail
        go_meet
        case rel => exact ⟨rfl, B10⟩
    case rest =>
      obtain ⟨rfl, hbc⟩ := hcut
      have HB2c := hid (HB3.out.trans (hbc.mono HB3.out.size))
      have HUC := hid (ownsRow_below HUO.out hbc)
      clear C2 C3 C4 C5 C6 HUI HUO HB3 HBW hbc t0 t1 t2 t3 t4 t5 t6 y0 y1 y2 y3 s1 s2 HX
      have HFIN := hid (fun wx (hx : Below w2.heap.size w2 wx) => HSS.out (.slice qa xp.length qc) wx (HV.out.below hx) (HB2.out.trans (hx.mono HB2.out.size)))
      have HBF := hid (fun wx (hx : Below w2.heap.size w2 wx) => HB2.out.trans (hx.mono HB2.out.size))
      have HUL : Hid (∃ l : List Int, l.length = us.length ∧ wc.ownsRow w2.heap.size 3 1 (.slice ua us.length uc) us.length (intVals l)) := ⟨us, rfl, HUC.out⟩
      have hul1 : us.length ≤ 110 := HU.out
      by_cases h0 : 0 < us.length
      · obtain ⟨g, cap2, hge, hgB, _, _, _⟩ := row_cells HUC.out (by rw [intVals_length]; exact h0)
        cases hge
        clear HUC HV HB2 HSS HU HEL
        generalize us.length = ul at *
        go_wp2_with fail
        go_loopg [8] ul (fun gk i wr => ∃ q : Nat, q + gk = ul ∧ i = .int .i64 q ∧ Below w2.heap.size w2 wr ∧ ∃ l : List Int, l.length = ul ∧ wr.ownsRow w2.heap.size 3 1 (.slice (some ⟨g, 0, none⟩) ul uc) ul (intVals l))
        case atStart => exact ⟨0, by omega, rfl, HB2c.out, HUL.out⟩
        case round =>
          obtain ⟨q, hq, rfl, hbr, l, hll, hown⟩ := hrel
          have HQ := hid hq
          by_cases hlt : q < ul
          · have hql : q < l.length := by omega
            have cq := (hown.cellAt q (by omega)).trans (intVals_at hql)
            have fq := hown.frozenAt q
            have HST : Hid (∀ z : Int, Below w2.heap.size w2 (wr.setCell ⟨g, q, none⟩ (.int .i64 z)) ∧ ∃ l' : List Int, l'.length = ul ∧ (wr.setCell ⟨g, q, none⟩ (.int .i64 z)).ownsRow w2.heap.size 3 1 (.slice (some ⟨g, 0, none⟩) ul uc) ul (intVals l')) := fun z =>
              ⟨hbr.setCell (p := ⟨g, q, none⟩) hgB _, l.set q z, by simpa using hll, by rw [← intVals_set]; exact (hown.stored q (.int .i64 z)).1⟩
            clear hq hown hbr hll
            generalize l[q] = z at *
            go_wp2
            go_roundg (gk - 1)
            case measure => have := HQ.out; omega
            case rel => exact ⟨q + 1, by have := HQ.out; omega, by go_num, (HST.out _).1, (HST.out _).2⟩
          · obtain rfl : q = ul := by omega
            clear hq hown hll
            have HF := hid (HFIN.out wr hbr)
            have hbW := HBF.out wr hbr
            obtain ⟨r1, _, s1, _⟩ := copyF HK1.out hbr (Array.getElem?_eq_some_iff.1 HK1.out).1
            obtain ⟨r3, _, s3', _⟩ := copyF HK3.out hbr (Array.getElem?_eq_some_iff.1 HK3.out).1
            have t5 := r1 5 (by simp)
            have o5 := r3 5 (by simp)
            simp only [List.getElem_toArray, List.getElem_cons_succ, List.getElem_cons_zero] at t5 o5
            clear r1 r3 HFIN HBF HK1 HK2 HK3
            go_wp2_with fail
            refine HF.out.mono ?_
            rintro e w12 ⟨rfl, hb12⟩
            have hbe12 := hbW.trans (hb12.mono hbW.size)
            clear hb12 HF
            go_wp2
            go_ret
            exact ⟨rfl, hbe12⟩
      · have hu0 : us.length = 0 := by omega
        clear HUC HV HB2 HSS HU HEL
        generalize us.length = ul at *
        subst hu0
        clear h0
        have hbr := HB2c.out
        go_wp2_with fail
        go_loop [8] (fun i => i = .int .i64 0) (fun _ => 0)
        case atStart => exact rfl
        case round =>
          obtain rfl := hrel
          have HF := hid (HFIN.out wc hbr)
          have hbW := HBF.out wc hbr
          obtain ⟨r1, _, s1, _⟩ := copyF HK1.out hbr (Array.getElem?_eq_some_iff.1 HK1.out).1
          obtain ⟨r3, _, s3', _⟩ := copyF HK3.out hbr (Array.getElem?_eq_some_iff.1 HK3.out).1
          have t5 := r1 5 (by simp)
          have o5 := r3 5 (by simp)
          simp only [List.getElem_toArray, List.getElem_cons_succ, List.getElem_cons_zero] at t5 o5
          clear r1 r3 HFIN HBF HK1 HK2 HK3
          go_wp2_with fail
          refine HF.out.mono ?_
          rintro e w12 ⟨rfl, hb12⟩
          have hbe12 := hbW.trans (hb12.mono hbW.size)
          clear hb12 HF
          go_wp2
          go_ret
          exact ⟨rfl, hbe12⟩
theorem walk2 (W : World) (x : Ix) (va vf : Value) (hx : IntsAt W va x.args) (hf : IntsAt W vf x.frm) (h0 : 0 ≤ x.op ∧ x.op ≤ 255) (y : Ex) (k0 : 0 ≤ y.kind ∧ y.kind ≤ 255) (ht : Tab W) :
    Calls Tryd.prog 6 #[ixV x va vf, exV y] W fun e W' => e = .returned (.bool true) ∧ Below W.heap.size W W' := walk W x va vf y hx hf h0 k0 ht
end Go.Proofs.YtaegidmodenomaaDoor.ShUW
