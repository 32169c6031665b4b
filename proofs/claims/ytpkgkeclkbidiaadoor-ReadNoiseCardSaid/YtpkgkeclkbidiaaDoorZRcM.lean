/- Walk over the reader's instruction. -/
import Derived.Test.YtpkgkeclkbidiaaDoorZRgZToRgY
import Derived.Test.YtpkgkeclkbidiaaDoorZRcKToRcL
namespace Go.Proofs.YtpkgkeclkbidiaaDoor.RcM
open Go.RowKit Go.Lib TyM TyP ShM ShP ShB IntO SetP LxM LxJ LxY RwO RdM RdN RdV RdB RdP Fresh Aft RgZ RcP RcA RcB RcC RcD RcT RcN RcU RcO RcH RcI RcK RcL
open LxP (LinesAt StrsAt)

variable {W : World} {b : Nat} {L : List Ln} {ws : Ln} {reg : Int} {tv : Value} {w : World}

/-- the first of the words -/
theorem word_first {x : ByteArray} {l : Ln} (h : Rdr W b L (x :: l) reg tv w) : ∃ pb off pc, w.cell? ⟨b, 1, none⟩ = some (.slice (some ⟨pb, off, none⟩) (l.length + 1) pc) ∧ w.cell? ⟨pb, off, none⟩ = some (.string x) := by
  obtain ⟨la, lc, wa, wc, c0, c1, c2, c3, hfz, hl, hw, hb, hL, hn⟩ := h.facts
  obtain ⟨pb, off, rfl, _, d1⟩ := hw.at 0 (by simp)
  rw [Nat.add_zero] at d1
  exact ⟨pb, off, wc, c1, (h.be.cell (p := ⟨pb, off, none⟩) (World.block_lt_of_cell? W _ d1)).trans d1⟩
theorem str_is {z : ByteArray} (h : un z = [61]) : (z.toList == [61]) = true := by rw [str_eq]; exact decide_eq_true h
theorem str_not {z : ByteArray} (h : un z ≠ [61]) : (z.toList == [61]) = false := by rw [str_eq]; exact decide_eq_false h

theorem opL_lt {l : Ln} {k : Nat} {l3 : Ln} (h : opL l = some (k, l3)) : k < 23 := by
  cases l with
  | nil => cases h
  | cons x l =>
    simp only [opL] at h
    cases ho : opC (un x) with
    | none => rw [ho] at h; cases h
    | some j =>
      rw [ho] at h
      cases h
      unfold opC at ho
      split at ho
      · cases ho; omega
      split at ho
      · cases ho
      · cases ho
        have := op_le (un x)
        omega
set_option maxRecDepth 100000 in
set_option maxHeartbeats 16000000 in
theorem in1 {Q : Ending → World → Prop} {x : ByteArray} {l0 : Ln} (h : Rdr W b ((x :: l0) :: L) ws reg tv w) (htab : ShA.Tab W) (hto : TabO W) (mx : (mkN x 114).2 = 0)
    (hy : ∀ y, insC (x :: l0) reg = some y → (-1000000000 ≤ reg ∧ reg ≤ 1000000000) ∧ ∀ e w', InsO W b L (reg + 1) tv y w e w' → Q e w') (hn : insC (x :: l0) reg = none → ∀ e w', Out b w e w' → Q e w') : Calls Tryd.prog 79 #[.pointer (some ⟨b, 0, none⟩)] w Q := by
  obtain ⟨r, hE⟩ : ∃ r, r = insC (x :: l0) reg := ⟨_, rfl⟩
  rw [← hE] at hy hn
  have HY := hid hy
  have HN := hid hn
  unfold insC at hE
  unfold ins1 at hE
  rw [List.getD_cons_zero, if_pos mx, markC_cons, if_pos mx] at hE
  simp only at hE
  have HE := hid hE
  have Kmx := hid mx
  have HTAB := hid htab
  have HTO := hid hto
  have hlt := h.lt
  have hWs := h.be.size
  have HNX := hid (next_yes (h.on (alloc_below w (.cells #[.int .u8 0, .int .i64 0, .int .i64 0, .int .i64 0, .int .i64 0, .slice none 0 0, .slice none 0 0] 39))))
  unfold Goes at HNX
  have HFX := hid ((h.fl.head).2.2 x (by simp)).2
  clear h htab hto hy hn hE mx
  go_enter Tryd.func79, Tryd.ntmps79
  go_wp2_with fail
  refine HNX.out.mono ?_
  rintro e w1 ⟨rfl, hr, hk⟩
  have hi := InsS.start hr hlt hWs hk
  obtain ⟨pb, off, pc, c1, d1⟩ := word_first hi.rdr
  obtain ⟨w2, hw2⟩ : ∃ X, X = w1.alloc (.cells #[.int .u8 0, .int .i64 0, .int .i64 0, .int .i64 0, .int .i64 0, .slice none 0 0, .slice none 0 0] 39) := ⟨_, rfl⟩
  have HW2 := hid hw2
  rw [← hw2] at hi
  have HI0 := hid hi
  have h0n : 0 < l0.length + 1 := by omega
  have h0i : (0 : Int) < ((l0.length + 1 : Nat) : Int) := by omega
  have HLN := hid (hi.rdr.fw.1)
  generalize l0.length + 1 = n0 at *
  clear hi hr hk hw2 HNX
  go_wp2_with fail
  rw [← HW2.out]
  clear c1 d1 h0n h0i HW2
  have HM := hid (mark_calls x HFX.out 114 w2)
  rw [show (((114 : UInt8).toNat : Nat) : Int) = 114 from rfl] at HM
  unfold MkR at HM
  rw [Kmx.out] at HM
  generalize hrg : (mkN x 114).1 = rg at *
  have HRG := hid hrg
  clear hrg
  refine HM.out.mono ?_
  rintro e w3 ⟨rfl, hb⟩
  have HI1 := hid (HI0.out.on hb)
  clear hb HM HI0
  have HD := hid HI1.out.draw
  have HC := hid (mark_yes (c := 114) HD.out.rdr (show markC 114 (x :: l0) = some (rg, l0) by rw [markC_cons, if_pos Kmx.out, HRG.out]))
  rw [show (((114 : UInt8).toNat : Nat) : Int) = 114 from rfl] at HC
  unfold Goes at HC
  have HV0 : Hid (w3.drew.cell? ⟨b, 2, none⟩ = some (.int .i64 reg)) := by
    obtain ⟨_, _, _, _, _, _, c2, _⟩ := HD.out.rdr.facts
    exact c2
  by_cases hq : rg = reg
  rotate_left
  · have hee : (rg == reg) = false := by simpa using hq
    have HQ := hid (HN.out (HE.out.trans (if_neg hq)))
    clear hq
    go_upto_region 6 with fail
    refine wp_region_Z (S := (fun w' => w'.cell? ⟨b, 2, none⟩ = some (.int .i64 reg))) (Z := []) (by kernel_rfl) ?_ (fun hHeld => ?_)
    · (try dsimp only)
      exact HV0.out
    refine zP 0 rfl ?_
    refine zP 2 rfl ?_
    refine zP 3 rfl ?_
    refine zP 4 rfl ?_
    refine zP 5 rfl ?_
    refine zT 6 rfl ?_
    refine zC 1 rfl (fun K hK => ?_)
    go_simp
    (go_at_call 53; (with_reducible refine HC.out.mono ?_); rintro e w4 ⟨rfl, hr1, hk1⟩; have HI2 := hid (HD.out.go hr1 hk1); have HV1 : Hid (w4.cell? ⟨b, 2, none⟩ = some (.int .i64 reg)) := (by obtain ⟨_, _, _, _, _, _, c2, _⟩ := HI2.out.rdr.facts; exact c2); clear hr1 hk1 HC)
    refine hK.out _ _ ?_ (fun hHeld => ?_)
    · (try dsimp only)
      exact HV1.out
    clear hK K
    refine zP 7 rfl ?_
    refine zC 8 rfl (fun K hK => ?_)
    go_simp
    (go_at_call 31)
    refine (must_no w4).mono ?_
    rintro e w5 ⟨rfl, rfl⟩
    have HK9 := hid HI2.out.kept
    exact ⟨rfl, HQ.out _ _ ⟨rfl, HK9.out⟩⟩
  have hee : (rg == reg) = true := by simpa using hq
  have hE := HE.out
  rw [if_pos hq] at hE
  have HE1 := hid hE
  clear hq hE HE
  have HE := HE1
  clear HE1
  go_upto_region 6 with fail
  refine wp_region_noPanic ?_
  refine wp_region_Z (S := (fun w' => w'.cell? ⟨b, 2, none⟩ = some (.int .i64 reg))) (Z := []) (by kernel_rfl) ?_ (fun hHeld => ?_)
  · (try dsimp only)
    exact HV0.out
  refine zP 0 rfl ?_
  refine zP 2 rfl ?_
  refine zP 3 rfl ?_
  refine zP 4 rfl ?_
  refine zP 5 rfl ?_
  refine zT 6 rfl ?_
  refine zC 1 rfl (fun K hK => ?_)
  go_simp
  (go_at_call 53; (with_reducible refine HC.out.mono ?_); rintro e w4 ⟨rfl, hr1, hk1⟩; have HI2 := hid (HD.out.go hr1 hk1); have HV1 : Hid (w4.cell? ⟨b, 2, none⟩ = some (.int .i64 reg)) := (by obtain ⟨_, _, _, _, _, _, c2, _⟩ := HI2.out.rdr.facts; exact c2); clear hr1 hk1 HC)
  refine hK.out _ _ ?_ (fun hHeld => ?_)
  · (try dsimp only)
    exact HV1.out
  clear hK K
  refine zP 7 rfl ?_
  refine zC 8 rfl (fun K hK => ?_)
  go_simp
  (go_at_call 31; (with_reducible refine (must_yes w4).mono ?_); rintro e w5 ⟨rfl, rfl⟩)
  refine hK.out _ _ ?_ (fun hHeld => ?_)
  · (try dsimp only)
    exact HV1.out
  clear hK K
  try simp only [Act.put, List.setIfInBounds_toArray, List.set_cons_zero, List.set_cons_succ]
  refine wpAnyZ_done (by kernel_rfl) ?_ _
  refine NoPanic.normal ?_
  clear HV0 HV1 HD hee
  go_wp2_with fail
  cases ht : markC 116 l0 with
  | none =>
    have hE := HE.out
    rw [ht] at hE
    (try simp only at hE)
    have HQ := hid (HN.out hE)
    have Kt := hid ht
    clear hE ht
    refine (mark_no (c := 116) HI2.out.rdr Kt.out).mono ?_
    rintro e w9 ⟨rfl, hk⟩
    have HK9 := hid (HI2.out.kept.trans hk)
    go_wp2
    exact ⟨rfl, HQ.out _ _ ⟨rfl, HK9.out⟩⟩
  | some tl =>
    obtain ⟨t, l1⟩ := tl
    have hE := HE.out
    rw [ht] at hE
    (try simp only at hE)
    have HE1 := hid hE
    have Kt := hid ht
    clear hE ht HE
    refine (mark_yes (c := 116) HI2.out.rdr Kt.out).mono ?_
    rintro e w5 ⟨rfl, hr, hk⟩
    have hi := HI2.out.go hr hk
    have g1 := hi.facts.1.2.1
    have gz1 := hi.facts.2 1
    obtain ⟨w6, hX⟩ : ∃ X, X = w5.setCell ⟨w1.heap.size, 1, none⟩ (.int .i64 t) := ⟨_, rfl⟩
    have HX := hid hX
    have HI3 : Hid (InsS W b L l1 reg tv w w1.heap.size (ix0 0 t) (.slice none 0 0) (.slice none 0 0) w6) := by show InsS _ _ _ _ _ _ _ _ _ _ _ _; rw [hX]; exact hi.set (hi.box.setT t)
    clear hi hr hk hX HI2
    go_wp2_with fail
    rw [← HX.out]
    clear g1 gz1 HX
    cases l1 with
    | nil =>
      have HQ := hid (HN.out HE1.out)
      refine (word_no HI3.out.rdr).mono ?_
      rintro e w9 ⟨rfl, hk⟩
      have HK9 := hid (HI3.out.kept.trans hk)
      go_wp2
      exact ⟨rfl, HQ.out _ _ ⟨rfl, HK9.out⟩⟩
    | cons z l2 =>
      refine (word_yes HI3.out.rdr).mono ?_
      rintro e w7 ⟨rfl, hr, hk⟩
      have HI4 := hid (HI3.out.go hr hk)
      clear hr hk HI3
      have hE := HE1.out
      simp only [wordC] at hE
      by_cases hz : un z = [61]
      rotate_left
      · rw [if_neg hz] at hE
        have HQ := hid (HN.out hE)
        have hzq := str_not hz
        clear hE hz
        go_wp2_with fail
        refine (must_no w7).mono ?_
        rintro e w9 ⟨rfl, rfl⟩
        have HK9 := hid HI4.out.kept
        go_wp2
        exact ⟨rfl, HQ.out _ _ ⟨rfl, HK9.out⟩⟩
      rw [if_pos hz] at hE
      have HE := hid hE
      have hzq := str_is hz
      clear hE hz HE1
      go_wp2_with fail
      refine (must_yes w7).mono ?_
      rintro e w9 ⟨rfl, rfl⟩
      clear hzq
      go_wp2_with fail
      cases hop : opL l2 with
      | none =>
        have hE := HE.out
        rw [hop] at hE
        (try simp only at hE)
        have HQ := hid (HN.out hE)
        have Kop := hid hop
        clear hE hop
        refine (op_no HI4.out.rdr HTO.out Kop.out).mono ?_
        rintro e w9 ⟨rfl, hk⟩
        have HK9 := hid (HI4.out.kept.trans hk)
        go_wp2
        exact ⟨rfl, HQ.out _ _ ⟨rfl, HK9.out⟩⟩
      | some kl =>
        obtain ⟨k, l3⟩ := kl
        have hE := HE.out
        rw [hop] at hE
        (try simp only at hE)
        have HE2 := hid hE
        have Kk := hid (opL_lt hop)
        have Kop := hid hop
        clear hE hop HE
        refine (op_yes HI4.out.rdr HTO.out Kop.out).mono ?_
        rintro e w10 ⟨rfl, hr, hk⟩
        have hi := HI4.out.go hr hk
        have g0 := hi.facts.1.1
        have gz0 := hi.facts.2 0
        obtain ⟨w11, hX⟩ : ∃ X, X = w10.setCell ⟨w1.heap.size, 0, none⟩ (.int .u8 k) := ⟨_, rfl⟩
        have HX := hid hX
        have HI5 : Hid (InsS W b L l3 reg tv w w1.heap.size (ix0 k t) (.slice none 0 0) (.slice none 0 0) w11) := by show InsS _ _ _ _ _ _ _ _ _ _ _ _; rw [hX]; exact hi.set (hi.box.setO k)
        have g00 : w11.cell? ⟨w1.heap.size, 0, none⟩ = some (.int .u8 k) := HI5.out.facts.1.1
        rw [hX] at g00
        clear hi hr hk hX HI4
        go_wp2_with fail
        rw [← HX.out]
        clear g0 gz0 g00 HX
        refine (ShA.answers_calls k (by omega) (by have := Kk.out; omega) w11 (HTAB.out.on HI5.out.rdr.be)).mono ?_
        rintro e w12 ⟨rfl, hb⟩
        have HI6 := hid (HI5.out.on hb)
        clear hb HI5
        by_cases ha : answersB k = true
        rotate_left
        · have hE := HE2.out
          rw [if_neg ha] at hE
          have HQ := hid (HN.out hE)
          rw [Bool.eq_false_iff.2 ha]
          clear hE ha
          go_wp2_with fail
          refine (must_no w12).mono ?_
          rintro e w9 ⟨rfl, rfl⟩
          have HK9 := hid HI6.out.kept
          go_wp2
          exact ⟨rfl, HQ.out _ _ ⟨rfl, HK9.out⟩⟩
        have hE := HE2.out
        rw [if_pos ha] at hE
        have HE := hid hE
        rw [ha]
        clear hE ha HE2
        go_wp2_with fail
        refine (must_yes w12).mono ?_
        rintro e w9 ⟨rfl, rfl⟩
        go_wp2_with fail
        cases hh : hasC k t l3 with
        | none =>
          have hE := HE.out
          rw [hh] at hE
          (try simp only at hE)
          have HQ := hid (HN.out hE)
          have Kh := hid hh
          clear hE hh
          refine (has_no HI6.out.has HTAB.out (by omega) (by have := Kk.out; omega) Kh.out).mono ?_
          rintro e w9 ⟨rfl, hk⟩
          have HK9 := hid (kept_two HI6.out.kept hk (by have := HI6.out.lt; omega))
          go_wp2
          exact ⟨rfl, HQ.out _ _ ⟨rfl, HK9.out⟩⟩
        | some yl =>
          obtain ⟨y, l4⟩ := yl
          have hE := HE.out
          rw [hh] at hE
          (try simp only at hE)
          have HE2 := hid hE
          have Kh := hid hh
          clear hE hh HE
          refine (has_yes HI6.out.has HTAB.out (by omega) (by have := Kk.out; omega) Kh.out).mono ?_
          rintro e w13 ⟨rfl, va, vf, hh⟩
          have HI7 := hid (HI6.out.back hh)
          clear hh HI6
          go_wp2_with fail
          cases l4 with
          | cons z4 l4 =>
            have HQ := hid (HN.out HE2.out)
            refine (over_no HI7.out.rdr (by simp)).mono ?_
            rintro e w9 ⟨rfl, hk⟩
            have HK9 := hid (HI7.out.kept.trans hk)
            go_wp2
            exact ⟨rfl, HQ.out _ _ ⟨rfl, HK9.out⟩⟩
          | nil =>
            obtain ⟨hreg, hQ⟩ := HY.out y HE2.out
            have Kreg := hid hreg
            have HQ := hid hQ
            clear hreg hQ
            refine (over_yes HI7.out.rdr).mono ?_
            rintro e w14 ⟨rfl, hr, hk⟩
            have hi := HI7.out.go hr hk
            obtain ⟨_, _, _, _, _, _, c2, _, hfz, _⟩ := hi.rdr.facts
            have fz2 := hfz 2
            obtain ⟨w15, hX⟩ : ∃ X, X = w14.setCell ⟨b, 2, none⟩ (.int .i64 (reg + 1)) := ⟨_, rfl⟩
            have hi2 : InsS W b L [] (reg + 1) tv w w1.heap.size y va vf w15 := by rw [hX]; exact hi.regs (reg + 1)
            obtain ⟨f0, f1, f2, f3, f4, f5, f6⟩ := hi2.facts.1
            have hn := hi2.res
            have y0 := cells_of hn 0 _ rfl; have y1 := cells_of hn 1 _ rfl; have y2 := cells_of hn 2 _ rfl; have y3 := cells_of hn 3 _ rfl; have y4 := cells_of hn 4 _ rfl; have y5 := cells_of hn 5 _ rfl; have y6 := cells_of hn 6 _ rfl
            have hz := (ShTB.cells_heap hn).2
            have z0 := hz 0; have z1 := hz 1; have z2 := hz 2; have z3 := hz 3; have z4 := hz 4; have z5 := hz 5; have z6 := hz 6
            obtain ⟨W3, hW3, hk3, ho3, hr3, hkp3⟩ := hi2.done
            have x0 := cells_of hk3 0 _ rfl; have x1 := cells_of hk3 1 _ rfl; have x2 := cells_of hk3 2 _ rfl; have x3 := cells_of hk3 3 _ rfl; have x4 := cells_of hk3 4 _ rfl; have x5 := cells_of hk3 5 _ rfl; have x6 := cells_of hk3 6 _ rfl
            have HW3 := hid hW3
            have HO3 := hid ho3
            have HR3 := hid hr3
            have HK3 := hid hkp3
            have HX := hid hX
            obtain ⟨a1, a2, hva⟩ := own_form hi2.box.owa
            obtain ⟨a3, a4, hvf⟩ := own_form hi2.box.owf
            subst hva
            subst hvf
            have hwr : IntKind.i64.wrap (reg + 1) = reg + 1 := IntWalk.i64_in _ (by have := Kreg.out; omega)
            clear hi hr hk hi2 hn hz hW3 hk3 ho3 hr3 hkp3 HI7 hfz hX
            go_upto_region 14 with fail
            rw [← HX.out]
            clear c2 fz2 hwr HX
            go_wp2
            (try simp only [Exit.inBlock, Exit.then])
            rw [← HW3.out]
            refine bodyPost_ret (by simp [results, Tryd.results79, go_sem, x0, x1, x2, x3, x4, x5, x6]; try rfl) rfl ?_
            exact HQ.out _ _ ⟨_, _, rfl, HO3.out, HR3.out, HK3.out⟩
set_option maxRecDepth 100000 in
set_option maxHeartbeats 16000000 in
theorem in2 {Q : Ending → World → Prop} {x : ByteArray} {l0 : Ln} (h : Rdr W b ((x :: l0) :: L) ws reg tv w) (htab : ShA.Tab W) (hto : TabO W) (mx : (mkN x 114).2 ≠ 0)
    (hy : ∀ y, insC (x :: l0) reg = some y → (-1000000000 ≤ reg ∧ reg ≤ 1000000000) ∧ ∀ e w', InsO W b L (reg + 1) tv y w e w' → Q e w') (hn : insC (x :: l0) reg = none → ∀ e w', Out b w e w' → Q e w') : Calls Tryd.prog 79 #[.pointer (some ⟨b, 0, none⟩)] w Q := by
  obtain ⟨r, hE⟩ : ∃ r, r = insC (x :: l0) reg := ⟨_, rfl⟩
  rw [← hE] at hy hn
  have HY := hid hy
  have HN := hid hn
  unfold insC at hE
  unfold ins2 at hE
  rw [List.getD_cons_zero, if_neg mx] at hE
  have HE := hid hE
  have Kmx := hid mx
  have HTAB := hid htab
  have HTO := hid hto
  have hlt := h.lt
  have hWs := h.be.size
  have HNX := hid (next_yes (h.on (alloc_below w (.cells #[.int .u8 0, .int .i64 0, .int .i64 0, .int .i64 0, .int .i64 0, .slice none 0 0, .slice none 0 0] 39))))
  unfold Goes at HNX
  have HFX := hid ((h.fl.head).2.2 x (by simp)).2
  clear h htab hto hy hn hE mx
  go_enter Tryd.func79, Tryd.ntmps79
  go_wp2_with fail
  refine HNX.out.mono ?_
  rintro e w1 ⟨rfl, hr, hk⟩
  have hi := InsS.start hr hlt hWs hk
  obtain ⟨pb, off, pc, c1, d1⟩ := word_first hi.rdr
  obtain ⟨w2, hw2⟩ : ∃ X, X = w1.alloc (.cells #[.int .u8 0, .int .i64 0, .int .i64 0, .int .i64 0, .int .i64 0, .slice none 0 0, .slice none 0 0] 39) := ⟨_, rfl⟩
  have HW2 := hid hw2
  rw [← hw2] at hi
  have HI0 := hid hi
  have h0n : 0 < l0.length + 1 := by omega
  have h0i : (0 : Int) < ((l0.length + 1 : Nat) : Int) := by omega
  have HLN := hid (hi.rdr.fw.1)
  generalize l0.length + 1 = n0 at *
  clear hi hr hk hw2 HNX
  go_wp2_with fail
  rw [← HW2.out]
  clear c1 d1 h0n h0i HW2
  have HM := hid (mark_calls x HFX.out 114 w2)
  rw [show (((114 : UInt8).toNat : Nat) : Int) = 114 from rfl] at HM
  unfold MkR at HM
  have hzz : ((mkN x 114).2 == 0) = false := by simpa using Kmx.out
  generalize (mkN x 114).2 = zz at *
  generalize hrg : (mkN x 114).1 = rg at *
  have HRG := hid hrg
  clear hrg
  refine HM.out.mono ?_
  rintro e w3 ⟨rfl, hb⟩
  have HI1 := hid (HI0.out.on hb)
  clear hb HM HI0
  go_wp2_with fail
  cases hop : opL (x :: l0) with
  | none =>
    have hE := HE.out
    rw [hop] at hE
    (try simp only at hE)
    have HQ := hid (HN.out hE)
    have Kop := hid hop
    clear hE hop
    refine (op_no HI1.out.rdr HTO.out Kop.out).mono ?_
    rintro e w9 ⟨rfl, hk⟩
    have HK9 := hid (HI1.out.kept.trans hk)
    go_wp2
    exact ⟨rfl, HQ.out _ _ ⟨rfl, HK9.out⟩⟩
  | some kl =>
    obtain ⟨k, l3⟩ := kl
    have hE := HE.out
    rw [hop] at hE
    (try simp only at hE)
    have HE2 := hid hE
    have Kk := hid (opL_lt hop)
    have Kop := hid hop
    clear hE hop HE
    refine (op_yes HI1.out.rdr HTO.out Kop.out).mono ?_
    rintro e w10 ⟨rfl, hr, hk⟩
    have hi := HI1.out.go hr hk
    have g0 := hi.facts.1.1
    have gz0 := hi.facts.2 0
    obtain ⟨w11, hX⟩ : ∃ X, X = w10.setCell ⟨w1.heap.size, 0, none⟩ (.int .u8 k) := ⟨_, rfl⟩
    have HX := hid hX
    have HI5 : Hid (InsS W b L l3 reg tv w w1.heap.size (ix0 k 0) (.slice none 0 0) (.slice none 0 0) w11) := by show InsS _ _ _ _ _ _ _ _ _ _ _ _; rw [hX]; exact hi.set (hi.box.setO k)
    have g00 : w11.cell? ⟨w1.heap.size, 0, none⟩ = some (.int .u8 k) := HI5.out.facts.1.1
    rw [hX] at g00
    clear hi hr hk hX HI1
    go_wp2_with fail
    rw [← HX.out]
    clear g0 gz0 g00 HX
    refine (ShA.answers_calls k (by omega) (by have := Kk.out; omega) w11 (HTAB.out.on HI5.out.rdr.be)).mono ?_
    rintro e w12 ⟨rfl, hb⟩
    have HI6 := hid (HI5.out.on hb)
    clear hb HI5
    by_cases ha : answersB k = true
    · have hE := HE2.out
      rw [if_pos ha] at hE
      have HQ := hid (HN.out hE)
      rw [ha]
      clear hE ha
      go_wp2_with fail
      refine (must_no w12).mono ?_
      rintro e w9 ⟨rfl, rfl⟩
      have HK9 := hid HI6.out.kept
      go_wp2
      exact ⟨rfl, HQ.out _ _ ⟨rfl, HK9.out⟩⟩
    have hE := HE2.out
    rw [if_neg ha] at hE
    have HE := hid hE
    rw [Bool.eq_false_iff.2 ha]
    clear hE ha HE2
    go_wp2_with fail
    refine (must_yes w12).mono ?_
    rintro e w9 ⟨rfl, rfl⟩
    go_wp2_with fail
    cases hh : hasC k 0 l3 with
    | none =>
      have hE := HE.out
      rw [hh] at hE
      (try simp only at hE)
      have HQ := hid (HN.out hE)
      have Kh := hid hh
      clear hE hh
      refine (has_no HI6.out.has HTAB.out (by omega) (by have := Kk.out; omega) Kh.out).mono ?_
      rintro e w9 ⟨rfl, hk⟩
      have HK9 := hid (kept_two HI6.out.kept hk (by have := HI6.out.lt; omega))
      go_wp2
      exact ⟨rfl, HQ.out _ _ ⟨rfl, HK9.out⟩⟩
    | some yl =>
      obtain ⟨y, l4⟩ := yl
      have hE := HE.out
      rw [hh] at hE
      (try simp only at hE)
      have HE2 := hid hE
      have Kh := hid hh
      clear hE hh HE
      refine (has_yes HI6.out.has HTAB.out (by omega) (by have := Kk.out; omega) Kh.out).mono ?_
      rintro e w13 ⟨rfl, va, vf, hh⟩
      have HI7 := hid (HI6.out.back hh)
      clear hh HI6
      go_wp2_with fail
      cases l4 with
      | cons z4 l4 =>
        have HQ := hid (HN.out HE2.out)
        refine (over_no HI7.out.rdr (by simp)).mono ?_
        rintro e w9 ⟨rfl, hk⟩
        have HK9 := hid (HI7.out.kept.trans hk)
        go_wp2
        exact ⟨rfl, HQ.out _ _ ⟨rfl, HK9.out⟩⟩
      | nil =>
        obtain ⟨hreg, hQ⟩ := HY.out y HE2.out
        have Kreg := hid hreg
        have HQ := hid hQ
        clear hreg hQ
        refine (over_yes HI7.out.rdr).mono ?_
        rintro e w14 ⟨rfl, hr, hk⟩
        have hi := HI7.out.go hr hk
        obtain ⟨_, _, _, _, _, _, c2, _, hfz, _⟩ := hi.rdr.facts
        have fz2 := hfz 2
        obtain ⟨w15, hX⟩ : ∃ X, X = w14.setCell ⟨b, 2, none⟩ (.int .i64 (reg + 1)) := ⟨_, rfl⟩
        have hi2 : InsS W b L [] (reg + 1) tv w w1.heap.size y va vf w15 := by rw [hX]; exact hi.regs (reg + 1)
        obtain ⟨f0, f1, f2, f3, f4, f5, f6⟩ := hi2.facts.1
        have hn := hi2.res
        have y0 := cells_of hn 0 _ rfl; have y1 := cells_of hn 1 _ rfl; have y2 := cells_of hn 2 _ rfl; have y3 := cells_of hn 3 _ rfl; have y4 := cells_of hn 4 _ rfl; have y5 := cells_of hn 5 _ rfl; have y6 := cells_of hn 6 _ rfl
        have hz := (ShTB.cells_heap hn).2
        have z0 := hz 0; have z1 := hz 1; have z2 := hz 2; have z3 := hz 3; have z4 := hz 4; have z5 := hz 5; have z6 := hz 6
        obtain ⟨W3, hW3, hk3, ho3, hr3, hkp3⟩ := hi2.done
        have x0 := cells_of hk3 0 _ rfl; have x1 := cells_of hk3 1 _ rfl; have x2 := cells_of hk3 2 _ rfl; have x3 := cells_of hk3 3 _ rfl; have x4 := cells_of hk3 4 _ rfl; have x5 := cells_of hk3 5 _ rfl; have x6 := cells_of hk3 6 _ rfl
        have HW3 := hid hW3
        have HO3 := hid ho3
        have HR3 := hid hr3
        have HK3 := hid hkp3
        have HX := hid hX
        obtain ⟨a1, a2, hva⟩ := own_form hi2.box.owa
        obtain ⟨a3, a4, hvf⟩ := own_form hi2.box.owf
        subst hva
        subst hvf
        have hwr : IntKind.i64.wrap (reg + 1) = reg + 1 := IntWalk.i64_in _ (by have := Kreg.out; omega)
        clear hi hr hk hi2 hn hz hW3 hk3 ho3 hr3 hkp3 HI7 hfz hX
        go_upto_region 14 with fail
        rw [← HX.out]
        clear c2 fz2 hwr HX
        go_wp2
        (try simp only [Exit.inBlock, Exit.then])
        rw [← HW3.out]
        refine bodyPost_ret (by simp [results, Tryd.results79, go_sem, x0, x1, x2, x3, x4, x5, x6]; try rfl) rfl ?_
        exact HQ.out _ _ ⟨_, _, rfl, HO3.out, HR3.out, HK3.out⟩
end Go.Proofs.YtpkgkeclkbidiaaDoor.RcM
