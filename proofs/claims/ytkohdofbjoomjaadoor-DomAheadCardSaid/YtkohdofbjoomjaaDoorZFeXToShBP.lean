/- Walk over fescuelaw10.DomNames. Plain facts for ShapeBack: where a register lies, and the next one. -/
import Derived.Test.YtkohdofbjoomjaaDoorZDmIToFeP
import Derived.Test.YtkohdofbjoomjaaDoorZRwH
namespace Go.Proofs.YtkohdofbjoomjaaDoor.FeX
open Go.RowKit Go.Lib SetP IntO TyM TyP TyB ShM ShP ShA ShB ShI ShJ PgB Aft FwP FwQ FwR FwK FdM FdQ FdK FeO FeA

def p0E : List Ex := [⟨3, 0, 0, 0⟩, ⟨1, 0, 0, 0⟩]
def p0P : Px := ofP p0E
theorem p0_small : Small p0P := ⟨by decide, by decide, by decide, by decide, by decide, by decide⟩
theorem p0_ok : POk p0P := by unfold POk; decide
theorem g1 : nextD p0P 0 0 = -1 := by decide +kernel
theorem g2 : askR p0P 0 0 = 0 := by decide +kernel
theorem g3 : nextD p0P 0 1 = 0 := by decide +kernel
theorem g4 : askR p0P 0 1 = 6 := by decide +kernel
theorem g5 : rulesA p0P 0 1 0 = false := by decide +kernel
theorem g6 : rulesE p0P 0 1 0 = 0 := by decide +kernel
theorem g7 : rulesA p0P 0 2 0 = false := by decide +kernel
theorem g8 : rulesE p0P 0 2 0 = 2 := by decide +kernel
theorem g9 : setA loopP 0 1 2 0 = true := by decide +kernel
theorem g10 : setE loopP 0 1 2 0 = 0 := by decide +kernel
theorem g11 : setA loopP 0 2 3 1 = false := by decide +kernel
theorem g12 : setE loopP 0 2 3 1 = 0 := by decide +kernel
theorem g13 : setA loopP 0 1 1 0 = false := by decide +kernel
theorem g14 : setE loopP 0 1 1 0 = 0 := by decide +kernel
theorem g15 : setA loopP 0 1 1 1 = true := by decide +kernel
theorem g16 : setE loopP 0 1 1 1 = 0 := by decide +kernel
theorem g17 : setA loopP 0 0 0 2 = false := by decide +kernel
theorem g18 : setE loopP 0 0 0 2 = 2 := by decide +kernel
theorem g19 : setA p0P 0 0 1 0 = false := by decide +kernel
theorem g20 : setE p0P 0 0 1 0 = 6 := by decide +kernel

set_option maxRecDepth 100000 in
set_option maxHeartbeats 8000000 in
theorem walk_of (CR : RulesC) (CN : NextDC) (CS : SetC) (W : World) (ht : Tab W) : Calls Tryd.prog 3 #[] W (fun e W' => e = .returned (.bool true) ∧ Below W.heap.size W W') := by
  have HT := hid ht
  have HB0 := hid (Below.refl W.heap.size W)
  clear ht
  go_enter Tryd.func3, Tryd.ntmps3
  have hbA := alloc_below W (.cells #[.int .u8 3, .int .i64 0, .int .i64 0, .int .i64 0, .int .u8 1, .int .i64 0, .int .i64 0, .int .i64 0] 28)
  have hk2 := alloc_new W (.cells #[.int .u8 3, .int .i64 0, .int .i64 0, .int .i64 0, .int .u8 1, .int .i64 0, .int .i64 0, .int .i64 0] 28)
  have HEA : EndsAt (W.alloc (.cells #[.int .u8 3, .int .i64 0, .int .i64 0, .int .i64 0, .int .u8 1, .int .i64 0, .int .i64 0, .int .i64 0] 28)) (.slice (some ⟨W.heap.size, 0, none⟩) 2 2) p0E := ends_blk (lt_of hk2) rfl (by simp [p0E]) fun i h => by
    have hi : i = 0 ∨ i = 1 := by have : i < 2 := h; omega
    rcases hi with rfl | rfl
    · exact ⟨cells_of hk2 0 _ rfl, cells_of hk2 1 _ rfl, cells_of hk2 2 _ rfl, cells_of hk2 3 _ rfl⟩
    · exact ⟨cells_of hk2 4 _ rfl, cells_of hk2 5 _ rfl, cells_of hk2 6 _ rfl, cells_of hk2 7 _ rfl⟩
  have HCA := hid (of_calls p0E _ _ HEA (by simp [p0E]))
  have HBA := hid hbA
  clear hbA hk2 HEA
  go_wp2_with fail
  refine HCA.out.mono ?_
  rintro e w0 ⟨v, rfl, hpr, hb1⟩
  have hp := hpr w0 (Agree.refl _ _)
  obtain ⟨vt, vf, rfl, hvt, hvf⟩ := id hp
  obtain ⟨ta, tc, rfl⟩ := hvt.slice
  obtain ⟨fa, fc, rfl, _⟩ := hvf.slice
  have hb0 := HBA.out.trans (hb1.mono HBA.out.size)
  clear hvt hvf hpr hb1 HCA HBA HB0
  generalize (Px.types _).length = n1 at *
  generalize (Px.funcs _).length = n2 at *
  obtain ⟨X, hX⟩ : ∃ X, X = w0.alloc (.cells #[.slice ta n1 tc, .slice fa n2 fc] 25) := ⟨_, rfl⟩
  have hbX : Below w0.heap.size w0 X := by rw [hX]; exact alloc_below _ _
  have ks : X.heap[w0.heap.size]? = some (.cells #[.slice ta n1 tc, .slice fa n2 fc] 25 (0, 0)) := by rw [hX]; exact alloc_new _ _
  have HPA := hid (hp.below hbX)
  have HB0 := hid (hb0.trans (hbX.mono hb0.size))
  have l0 := later_cells ks 0 (.slice ta n1 tc) rfl
  have l1 := later_cells ks 1 (.slice fa n2 fc) rfl
  have af0 := Aft.refl X
  have HX := hid hX
  clear hp hb0 ks hbX hX
  go_upto_region 2 with fail
  rw [← HX.out]
  clear HX
  have HC := hid (CN p0P 0 0 _ _ HPA.out (HT.out.on HB0.out) p0_small p0_ok ⟨by decide, by decide⟩ ⟨by decide, by decide⟩)
  rw [g1, g2] at HC
  go_wp2_with fail
  refine HC.out.mono ?_
  rintro e w1 ⟨rfl, hb⟩
  have HB1 := hid (HB0.out.trans (hb.mono HB0.out.size))
  have HPA := hid (HPA.out.below hb)
  have af1 := af0.go hb
  clear hb
  clear HC
  have HC := hid (CN p0P 0 1 _ _ HPA.out (HT.out.on HB1.out) p0_small p0_ok ⟨by decide, by decide⟩ ⟨by decide, by decide⟩)
  rw [g3, g4] at HC
  go_wp2_with fail
  refine HC.out.mono ?_
  rintro e w2 ⟨rfl, hb⟩
  have HB2 := hid (HB1.out.trans (hb.mono HB1.out.size))
  have HPA := hid (HPA.out.below hb)
  have af2 := af1.go hb
  clear hb
  clear HC
  have HC := hid (CR p0P 0 1 0 _ _ HPA.out (HT.out.on HB2.out) p0_small p0_ok ⟨by decide, by decide⟩ ⟨by decide, by decide⟩ ⟨by decide, by decide⟩)
  rw [g5, g6] at HC
  go_wp2_with fail
  refine HC.out.mono ?_
  rintro e w3 ⟨rfl, hb⟩
  have HB3 := hid (HB2.out.trans (hb.mono HB2.out.size))
  have HPA := hid (HPA.out.below hb)
  have af3 := af2.go hb
  clear hb
  clear HC
  have HC := hid (CR p0P 0 2 0 _ _ HPA.out (HT.out.on HB3.out) p0_small p0_ok ⟨by decide, by decide⟩ ⟨by decide, by decide⟩ ⟨by decide, by decide⟩)
  rw [g7, g8] at HC
  go_wp2_with fail
  refine HC.out.mono ?_
  rintro e w4 ⟨rfl, hb⟩
  have HB4 := hid (HB3.out.trans (hb.mono HB3.out.size))
  have HPA := hid (HPA.out.below hb)
  have af4 := af3.go hb
  clear hb
  clear HC
  go_wp2_with fail
  refine (loop_calls _).mono ?_
  rintro e w5 ⟨v, rfl, hp, hb⟩
  have HB5 := hid (HB4.out.trans (hb.mono HB4.out.size))
  have HPA := hid (HPA.out.below hb)
  have af5 := af4.go hb
  clear hb
  have HPX := hid hp
  obtain ⟨_, _, rfl, _⟩ := hp
  have HC := hid (CS loopP 0 1 2 0 _ _ HPX.out (HT.out.on HB5.out) loop_small loop_ok ⟨by decide, by decide⟩ ⟨by decide, by decide⟩ ⟨by decide, by decide⟩ ⟨by decide, by decide⟩)
  rw [g9, g10] at HC
  go_wp2_with fail
  refine HC.out.mono ?_
  rintro e w6 ⟨rfl, hb⟩
  have HB6 := hid (HB5.out.trans (hb.mono HB5.out.size))
  have HPA := hid (HPA.out.below hb)
  have af6 := af5.go hb
  clear hb
  clear HC
  clear HPX
  go_wp2_with fail
  refine (loop_calls _).mono ?_
  rintro e w7 ⟨v, rfl, hp, hb⟩
  have HB7 := hid (HB6.out.trans (hb.mono HB6.out.size))
  have HPA := hid (HPA.out.below hb)
  have af7 := af6.go hb
  clear hb
  have HPX := hid hp
  obtain ⟨_, _, rfl, _⟩ := hp
  have HC := hid (CS loopP 0 2 3 1 _ _ HPX.out (HT.out.on HB7.out) loop_small loop_ok ⟨by decide, by decide⟩ ⟨by decide, by decide⟩ ⟨by decide, by decide⟩ ⟨by decide, by decide⟩)
  rw [g11, g12] at HC
  go_wp2_with fail
  refine HC.out.mono ?_
  rintro e w8 ⟨rfl, hb⟩
  have HB8 := hid (HB7.out.trans (hb.mono HB7.out.size))
  have HPA := hid (HPA.out.below hb)
  have af8 := af7.go hb
  clear hb
  clear HC
  clear HPX
  go_wp2_with fail
  refine (loop_calls _).mono ?_
  rintro e w9 ⟨v, rfl, hp, hb⟩
  have HB9 := hid (HB8.out.trans (hb.mono HB8.out.size))
  have HPA := hid (HPA.out.below hb)
  have af9 := af8.go hb
  clear hb
  have HPX := hid hp
  obtain ⟨_, _, rfl, _⟩ := hp
  have HC := hid (CS loopP 0 1 1 0 _ _ HPX.out (HT.out.on HB9.out) loop_small loop_ok ⟨by decide, by decide⟩ ⟨by decide, by decide⟩ ⟨by decide, by decide⟩ ⟨by decide, by decide⟩)
  rw [g13, g14] at HC
  go_wp2_with fail
  refine HC.out.mono ?_
  rintro e w10 ⟨rfl, hb⟩
  have HB10 := hid (HB9.out.trans (hb.mono HB9.out.size))
  have HPA := hid (HPA.out.below hb)
  have af10 := af9.go hb
  clear hb
  clear HC
  clear HPX
  go_wp2_with fail
  refine (loop_calls _).mono ?_
  rintro e w11 ⟨v, rfl, hp, hb⟩
  have HB11 := hid (HB10.out.trans (hb.mono HB10.out.size))
  have HPA := hid (HPA.out.below hb)
  have af11 := af10.go hb
  clear hb
  have HPX := hid hp
  obtain ⟨_, _, rfl, _⟩ := hp
  have HC := hid (CS loopP 0 1 1 1 _ _ HPX.out (HT.out.on HB11.out) loop_small loop_ok ⟨by decide, by decide⟩ ⟨by decide, by decide⟩ ⟨by decide, by decide⟩ ⟨by decide, by decide⟩)
  rw [g15, g16] at HC
  go_wp2_with fail
  refine HC.out.mono ?_
  rintro e w12 ⟨rfl, hb⟩
  have HB12 := hid (HB11.out.trans (hb.mono HB11.out.size))
  have HPA := hid (HPA.out.below hb)
  have af12 := af11.go hb
  clear hb
  clear HC
  clear HPX
  go_wp2_with fail
  refine (loop_calls _).mono ?_
  rintro e w13 ⟨v, rfl, hp, hb⟩
  have HB13 := hid (HB12.out.trans (hb.mono HB12.out.size))
  have HPA := hid (HPA.out.below hb)
  have af13 := af12.go hb
  clear hb
  have HPX := hid hp
  obtain ⟨_, _, rfl, _⟩ := hp
  have HC := hid (CS loopP 0 0 0 2 _ _ HPX.out (HT.out.on HB13.out) loop_small loop_ok ⟨by decide, by decide⟩ ⟨by decide, by decide⟩ ⟨by decide, by decide⟩ ⟨by decide, by decide⟩)
  rw [g17, g18] at HC
  go_wp2_with fail
  refine HC.out.mono ?_
  rintro e w14 ⟨rfl, hb⟩
  have HB14 := hid (HB13.out.trans (hb.mono HB13.out.size))
  have HPA := hid (HPA.out.below hb)
  have af14 := af13.go hb
  clear hb
  clear HC
  clear HPX
  have HC := hid (CS p0P 0 0 1 0 _ _ HPA.out (HT.out.on HB14.out) p0_small p0_ok ⟨by decide, by decide⟩ ⟨by decide, by decide⟩ ⟨by decide, by decide⟩ ⟨by decide, by decide⟩)
  rw [g19, g20] at HC
  go_wp2_with fail
  refine HC.out.mono ?_
  rintro e w15 ⟨rfl, hb⟩
  have HB15 := hid (HB14.out.trans (hb.mono HB14.out.size))
  have HPA := hid (HPA.out.below hb)
  have af15 := af14.go hb
  clear hb
  clear HC
  have HC := hid (alive_of CR CN w15 (HT.out.on HB15.out))
  go_wp2_with fail
  refine HC.out.mono ?_
  rintro e w16 ⟨rfl, hb⟩
  have HB16 := hid (HB15.out.trans (hb.mono HB15.out.size))
  have HPA := hid (HPA.out.below hb)
  have af16 := af15.go hb
  clear hb
  clear HC
  go_wp2
  go_ret
  exact ⟨rfl, HB16.out⟩
end Go.Proofs.YtkohdofbjoomjaaDoor.FeX
namespace Go.Proofs.YtkohdofbjoomjaaDoor.ShBP
open Go.RowKit Go.Lib SetP IntO TyM TyP TyB TyC ShM ShP ShA ShB ShC ShE ShQ ShF ShG ShH ShI ShJ ShK ShL

theorem locate_spec : ∀ (l : List Bx) (n : Nat), n < manyB l → ∃ (j i : Nat) (h : j < l.length), locate l n = (j, i) ∧ manyB (l.take j) + i = n ∧ i < l[j].ins.length
  | [], n, h => by simp [manyB_nil] at h
  | b :: l, n, h => by
    by_cases hb : n < b.ins.length
    · exact ⟨0, n, by simp, by unfold locate; rw [if_pos hb], by simp [manyB_nil], by simpa using hb⟩
    · rw [manyB_cons] at h
      obtain ⟨j, i, hj, h1, h2, h3⟩ := locate_spec l (n - b.ins.length) (by omega)
      refine ⟨j + 1, i, by simpa using hj, by unfold locate; rw [if_neg hb, h1], ?_, by simpa using h3⟩
      rw [List.take_succ_cons, manyB_cons]; omega
theorem many_mono (l : List Bx) {a b : Nat} (h : a ≤ b) : manyB (l.take a) ≤ manyB (l.take b) := by
  have := manyB_le (l.take b) a
  rwa [List.take_take, Nat.min_eq_left h] at this
/-- from a register to the next one -/
theorem locate_next {l : List Bx} {n j i : Nat} (hj : j < l.length) (h2 : manyB (l.take j) + i = n) (h3 : i < l[j].ins.length) (hn : n + 1 < manyB l) : (locate l (n + 1) = (j, i + 1)) ∨ ∃ c, j < c ∧ locate l (n + 1) = (c, 0) := by
  by_cases hi : i + 1 < l[j].ins.length
  · exact .inl (locate_of l (n + 1) j (i + 1) hj (by omega) hi)
  · obtain ⟨c, d, hc, e1, e2, e3⟩ := locate_spec l (n + 1) hn
    have hjt := manyB_take hj
    have hct := manyB_take hc
    right
    by_cases hcj : c ≤ j
    · by_cases hce : c = j
      · subst hce; omega
      · have := many_mono l (show c + 1 ≤ j by omega)
        omega
    · have := many_mono l (show j + 1 ≤ c by omega)
      obtain rfl : d = 0 := by omega
      exact ⟨c, by omega, e1⟩

/-- what the four calls answer, of a register -/
theorem back_par {p : Px} {f r : Int} {k : Nat} {x : Fx} (hz : findP p f = 0) (h1 : Has1 p f k x) (h0 : 0 ≤ r) (hr : r < (parOf p.types x.sig : Nat)) : placeE p f r = 0 ∧ placeB p f r = -1 ∧ placeI p f r = r := by
  have he : placeE p f r = 0 := by
    unfold placeE
    rw [if_neg (fun e => e hz), cnt_at h1, if_pos ⟨h0, by omega⟩]
  refine ⟨he, ?_, ?_⟩
  · unfold placeB
    rw [he, if_neg (fun e => e rfl), fn_eq h1, if_pos hr]
  · unfold placeI
    rw [he, if_neg (fun e => e rfl), fn_eq h1, if_pos hr]
theorem back_out {p : Px} {f r : Int} {k : Nat} {x : Fx} (hz : findP p f = 0) (h1 : Has1 p f k x) (h0 : ¬ (0 ≤ r ∧ r < ((parOf p.types x.sig + manyB x.blocks : Nat) : Int))) : placeE p f r = 2 ∧ placeB p f r = 0 ∧ placeI p f r = 0 := by
  have he : placeE p f r = 2 := by
    unfold placeE
    rw [if_neg (fun e => e hz), cnt_at h1, if_neg h0]
  refine ⟨he, ?_, ?_⟩
  · unfold placeB
    rw [he]; rfl
  · unfold placeI
    rw [he]; rfl
theorem back_in {p : Px} {f : Int} {k n : Nat} {x : Fx} {j i : Nat} (hz : findP p f = 0) (h1 : Has1 p f k x) (hn : n < manyB x.blocks) (hl : locate x.blocks n = (j, i)) : placeE p f ((parOf p.types x.sig + n : Nat) : Int) = 0 ∧ placeB p f ((parOf p.types x.sig + n : Nat) : Int) = j ∧ placeI p f ((parOf p.types x.sig + n : Nat) : Int) = i := by
  have he : placeE p f ((parOf p.types x.sig + n : Nat) : Int) = 0 := by
    unfold placeE
    rw [if_neg (fun e => e hz), cnt_at h1, if_pos ⟨by omega, by omega⟩]
  have ht : (((parOf p.types x.sig + n : Nat) : Int) - (parOf p.types x.sig : Nat)).toNat = n := by omega
  refine ⟨he, ?_, ?_⟩
  · unfold placeB
    rw [he, if_neg (fun e => e rfl), fn_eq h1, if_neg (by omega), ht, hl]
  · unfold placeI
    rw [he, if_neg (fun e => e rfl), fn_eq h1, if_neg (by omega), ht, hl]
theorem back_reg {p : Px} {f : Int} {k n : Nat} {x : Fx} {j i : Nat} (hz : findP p f = 0) (h1 : Has1 p f k x) (hj : j < x.blocks.length) (h2 : manyB (x.blocks.take j) + i = n) (h3 : i < x.blocks[j].ins.length) : regE p f j i = 0 ∧ regN p f j i = ((parOf p.types x.sig + n : Nat) : Int) := by
  have he : regE p f j i = 0 := by
    unfold regE
    rw [if_neg (fun e => e hz), fn_eq h1, if_pos]
    rw [insN_at hj]
    exact ⟨⟨by omega, by omega⟩, by omega, by omega⟩
  refine ⟨he, ?_⟩
  unfold regN
  rw [he, if_neg (fun e => e rfl), fn_eq h1, Int.toNat_natCast]
  omega

end Go.Proofs.YtkohdofbjoomjaaDoor.ShBP
