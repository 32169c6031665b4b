/- Walk over shape.may. -/
import Derived.Test.YtimnjkdhcnhkoaaDoorZRgZToRgY
import Derived.Test.YtimnjkdhcnhkoaaDoorZShF
namespace Go.Proofs.YtimnjkdhcnhkoaaDoor.ShG
open RgZ
open Go.RowKit Go.Lib SetP IntO TyM TyP TyB TyC ShM ShP ShA ShB ShC ShE ShQ ShF

/-- a block of seven cells, as a store meets it -/
theorem seven {w : World} {n : Nat} {c0 c1 c2 c3 c4 c5 c6 : Value} {ty : TypeId} (h : w.heap[n]? = some (.cells #[c0, c1, c2, c3, c4, c5, c6] ty (0, 0))) :
    (w.cell? ⟨n, 0, none⟩ = some c0 ∧ w.cell? ⟨n, 1, none⟩ = some c1 ∧ w.cell? ⟨n, 2, none⟩ = some c2 ∧ w.cell? ⟨n, 3, none⟩ = some c3 ∧ w.cell? ⟨n, 4, none⟩ = some c4 ∧ w.cell? ⟨n, 5, none⟩ = some c5 ∧ w.cell? ⟨n, 6, none⟩ = some c6) ∧
    (w.frozen? ⟨n, 0, none⟩ = false ∧ w.frozen? ⟨n, 1, none⟩ = false ∧ w.frozen? ⟨n, 2, none⟩ = false ∧ w.frozen? ⟨n, 3, none⟩ = false ∧ w.frozen? ⟨n, 4, none⟩ = false ∧ w.frozen? ⟨n, 5, none⟩ = false ∧ w.frozen? ⟨n, 6, none⟩ = false) ∧ n < w.heap.size := by
  obtain ⟨f1, f2, f3, _⟩ := copyF h (Below.refl w.heap.size w) (Array.getElem?_eq_some_iff.1 h).1
  exact ⟨⟨f1 0 (by simp), f1 1 (by simp), f1 2 (by simp), f1 3 (by simp), f1 4 (by simp), f1 5 (by simp), f1 6 (by simp)⟩, ⟨f2 0, f2 1, f2 2, f2 3, f2 4, f2 5, f2 6⟩, f3⟩
theorem set7 {w : World} {n : Nat} {c0 c1 c2 c3 c4 c5 c6 : Value} {ty : TypeId} (d0 d1 d2 d3 d4 d5 d6 : Value) (h : w.heap[n]? = some (.cells #[c0, c1, c2, c3, c4, c5, c6] ty (0, 0))) :
    (((((((w.setCell ⟨n, 0, none⟩ d0).setCell ⟨n, 1, none⟩ d1).setCell ⟨n, 2, none⟩ d2).setCell ⟨n, 3, none⟩ d3).setCell ⟨n, 4, none⟩ d4).setCell ⟨n, 5, none⟩ d5).setCell ⟨n, 6, none⟩ d6).heap[n]? = some (.cells #[d0, d1, d2, d3, d4, d5, d6] ty (0, 0)) := by
  have := set_heap' d6 (i := 6) (set_heap' d5 (i := 5) (set_heap' d4 (i := 4) (set_heap' d3 (i := 3) (set_heap' d2 (i := 2) (set_heap' d1 (i := 1) (set_heap' d0 (i := 0) h))))))
  simpa using this
theorem below7 {w0 w : World} {n B : Nat} (d0 d1 d2 d3 d4 d5 d6 : Value) (h : Below B w0 w) (hn : B ≤ n) :
    Below B w0 (((((((w.setCell ⟨n, 0, none⟩ d0).setCell ⟨n, 1, none⟩ d1).setCell ⟨n, 2, none⟩ d2).setCell ⟨n, 3, none⟩ d3).setCell ⟨n, 4, none⟩ d4).setCell ⟨n, 5, none⟩ d5).setCell ⟨n, 6, none⟩ d6) :=
  ((((((h.setCell (p := ⟨n, 0, none⟩) hn _).setCell (p := ⟨n, 1, none⟩) hn _).setCell (p := ⟨n, 2, none⟩) hn _).setCell (p := ⟨n, 3, none⟩) hn _).setCell (p := ⟨n, 4, none⟩) hn _).setCell (p := ⟨n, 5, none⟩) hn _).setCell (p := ⟨n, 6, none⟩) hn _
theorem hI_dec (x0 x1 x2 x3 x4 x5 x6 y0 y1 y2 y3 y4 y5 y6 : Int) : ((x0 == y0) && ((x1 == y1) && ((x2 == y2) && ((x3 == y3) && ((x4 == y4) && ((x5 == y5) && (x6 == y6))))))) = decide ((⟨x0, x1, x2, x3, x4, x5, x6⟩ : Has) = ⟨y0, y1, y2, y3, y4, y5, y6⟩) := by
  rw [Bool.eq_iff_iff]
  simp [has_eq]

set_option maxRecDepth 100000 in
set_option maxHeartbeats 16000000 in
theorem may_core (nt nr nf nb : Int) (x : Ix) (y : Has) (va vf : Value) (w : World) (ha : IntsAt w va x.args) (hf : IntsAt w vf x.frm)
    (h1 : 0 ≤ y.typ ∧ y.typ ≤ 6) (h2 : 0 ≤ y.a ∧ y.a ≤ 6) (h3 : 0 ≤ y.b ∧ y.b ≤ 6) (h4 : 0 ≤ y.n ∧ y.n ≤ 6) (h5 : 0 ≤ y.per ∧ y.per ≤ 1)
    (HC : Hid (∀ wx, Below w.heap.size w wx → Calls Tryd.prog 106 #[.int .u8 x.op] wx (ValR (hasV y) wx))) :
    Calls Tryd.prog 92 #[limV nt nr nf nb, ixV x va vf] w (BoolR (if y = has0 ∨ (⟨toldV (limL nt nr nf nb) y.typ x.typ, toldV (limL nt nr nf nb) y.a x.a, toldV (limL nt nr nf nb) y.b x.b, toldV (limL nt nr nf nb) y.n x.n, min y.least x.args.length, max y.most x.args.length, y.per⟩ : Has) ≠ y ∨ (x.frm.length : Int) ≠ y.per * x.args.length then false else lowB nr x.args && lowB nb x.frm) w) := by
  have hb0 : Below w.heap.size w ((w.alloc (.cells #[.int .i64 1, .int .i64 0, .int .i64 nt, .int .i64 nr, .int .i64 nf, .int .i64 nb, .int .i64 8] 131)).alloc (.cells #[.int .u8 x.op, .int .i64 x.typ, .int .i64 x.a, .int .i64 x.b, .int .i64 x.n, va, vf] 55)) := (alloc_below _ _).alloc (by simp) _
  have HC1 := hid (HC.out _ hb0)
  have HT1 := hid (fun wx => told_calls nt nr nf nb y.typ x.typ h1.1 h1.2 wx)
  have HT2 := hid (fun wx => told_calls nt nr nf nb y.a x.a h2.1 h2.2 wx)
  have HT3 := hid (fun wx => told_calls nt nr nf nb y.b x.b h3.1 h3.2 wx)
  have HT4 := hid (fun wx => told64_calls nt nr nf nb y.n x.n h4.1 h4.2 wx)
  have HLA := hid (fun wx (hx : Below w.heap.size w wx) => ShE.below_calls nr va x.args wx (ha.below hx))
  have HLF := hid (fun wx (hx : Below w.heap.size w wx) => ShE.below_calls nb vf x.frm wx (hf.below hx))
  have hper : y.per = 0 ∨ y.per = 1 := by omega
  obtain ⟨aa, ac, rfl, hla⟩ := ints_slice ha
  obtain ⟨fa, fc, rfl, hlf⟩ := ints_slice hf
  have HWR : Hid (IntKind.i64.wrap (y.per * x.args.length) = y.per * x.args.length) := by
    show _ = _
    rw [IntWalk.i64_in _ (by rcases hper with e | e <;> rw [e] <;> omega)]
  generalize toldV (limL nt nr nf nb) y.typ x.typ = z1 at *
  generalize toldV (limL nt nr nf nb) y.a x.a = z2 at *
  generalize toldV (limL nt nr nf nb) y.b x.b = z3 at *
  generalize toldV (limL nt nr nf nb) y.n x.n = z4 at *
  generalize lowB nr x.args = la at *
  generalize lowB nb x.frm = lf at *
  clear HC h1 h2 h3 h4 h5 ha hf hper
  have HB0 := hid hb0
  obtain ⟨xo, xt, xa, xb, xn, xl, xm⟩ := x
  obtain ⟨yt, ya, yb, yn, yl, ym, yp⟩ := y
  simp only [hasV, limV] at *
  clear hb0
  generalize xl.length = nl at *
  generalize xm.length = nm at *
  obtain ⟨q1, hq1⟩ : ∃ q : Int, q = min yl (nl : Int) := ⟨_, rfl⟩
  obtain ⟨q2, hq2⟩ : ∃ q : Int, q = max ym (nl : Int) := ⟨_, rfl⟩
  rw [← hq1, ← hq2]
  generalize hans : (if (⟨yt, ya, yb, yn, yl, ym, yp⟩ : Has) = has0 ∨ (⟨z1, z2, z3, z4, q1, q2, yp⟩ : Has) ≠ ⟨yt, ya, yb, yn, yl, ym, yp⟩ ∨ (nm : Int) ≠ yp * nl then false else la && lf) = ans
  have HANS := hid hans
  have HQ1 := hid hq1
  have HQ2 := hid hq2
  clear hans hq1 hq2
  go_enter Tryd.func92, Tryd.ntmps92
  go_wp2_with fail
  refine HC1.out.mono ?_
  rintro e w1 ⟨rfl, hb1⟩
  obtain ⟨f1, _, s1, k1⟩ := copyF (alloc_old (alloc_new _ _) _) hb1 (by simp only [World.size_alloc]; omega)
  obtain ⟨f2, _, s2, k2⟩ := copyF (alloc_new _ _) hb1 (by simp only [World.size_alloc]; omega)
  simp only [World.size_alloc] at f2 s2 k2
  have HBE := hid (HB0.out.trans (hb1.mono HB0.out.size))
  clear HC1 hb1 HB0
  have HK1 := hid k1
  have HK2 := hid k2
  clear f1 f2 k1 k2
  go_upto_region 2 with fail
  obtain ⟨w2, hw2⟩ : ∃ w2 : World, w2 = w1.alloc (.cells #[.int .u8 yt, .int .u8 ya, .int .u8 yb, .int .u8 yn, .int .i64 yl, .int .i64 ym, .int .i64 yp] 152) := ⟨_, rfl⟩
  rw [← hw2]
  have HB2 : Hid (Below w.heap.size w w2) := by show Below _ _ _; rw [hw2]; exact HBE.out.alloc HBE.out.size _
  have HL1 : Hid (w2.heap[w.heap.size]? = some (.cells #[.int .i64 1, .int .i64 0, .int .i64 nt, .int .i64 nr, .int .i64 nf, .int .i64 nb, .int .i64 8] 131 (0, 0))) := by show _ = _; rw [hw2]; exact alloc_old HK1.out _
  have HL2 : Hid (w2.heap[w.heap.size + 1]? = some (.cells #[.int .u8 xo, .int .i64 xt, .int .i64 xa, .int .i64 xb, .int .i64 xn, .slice aa nl ac, .slice fa nm fc] 55 (0, 0))) := by show _ = _; rw [hw2]; exact alloc_old HK2.out _
  have HL3 : Hid (w2.heap[w1.heap.size]? = some (.cells #[.int .u8 yt, .int .u8 ya, .int .u8 yb, .int .u8 yn, .int .i64 yl, .int .i64 ym, .int .i64 yp] 152 (0, 0))) := by show _ = _; rw [hw2]; exact alloc_new _ _
  have HLA2 := hid (fun wx (hx : Below w2.heap.size w2 wx) => HLA.out wx (HB2.out.trans (hx.mono HB2.out.size)))
  have HLF2 := hid (fun wx (hx : Below w.heap.size w wx) => HLF.out wx hx)
  have HTR := hid (fun wx (hx : Below w2.heap.size w2 wx) => HB2.out.trans (hx.mono HB2.out.size))
  clear hw2 HK1 HK2 HBE s1 s2 HLA HLF
  generalize hbs : w.heap.size = bs at *
  have HBS := hid hbs
  clear hbs
  generalize w1.heap.size = bw at *
  obtain ⟨⟨a0, a1, a2, a3, a4, a5, a6⟩, _, s1⟩ := seven HL1.out
  obtain ⟨⟨b0, b1, b2, b3, b4, b5, b6⟩, _, s2⟩ := seven HL2.out
  obtain ⟨⟨c0, c1, c2, c3, c4, c5, c6⟩, _, s3⟩ := seven HL3.out
  go_cut [6] (fun p wc => ∃ n6 : Nat, p = .pointer (some ⟨n6, 0, none⟩) ∧ wc.heap[n6]? = some (.cells #[.int .u8 z1, .int .u8 z2, .int .u8 z3, .int .u8 z4, .int .i64 q1, .int .i64 q2, .int .i64 yp] 152 (0, 0)) ∧ Below w2.heap.size w2 wc)
  case first =>
    have HOS := hid (old_start w2)
    generalize hn2 : w2.heap.size = n2 at *
    have HN2 := hid hn2
    clear hn2
    have hsz3 : n2 ≤ w2.heap.size := Nat.le_of_eq HN2.out.symm
    have HOS2 : Hid (n2 ≤ w2.heap.size ∧ ∀ b o, b < n2 → w2.cell? ⟨b, o, none⟩ = w2.cell? ⟨b, o, none⟩) := ⟨hsz3, fun _ _ _ => rfl⟩
    have hsz2 : n2 ≤ w2.drew.heap.size := by rw [← HN2.out]; exact Nat.le_refl _
    have hmin : (if (nl : Int) < yl then (nl : Int) else yl) = q1 := by rw [HQ1.out]; split <;> omega
    have hmax : (if ym < (nl : Int) then (nl : Int) else ym) = q2 := by rw [HQ2.out]; split <;> omega
    refine wp_region_noPanic ?_
    refine wp_region_held_drew (S := (fun w' => n2 ≤ w'.heap.size ∧ ∀ b o, b < n2 → w'.cell? ⟨b, o, none⟩ = w2.cell? ⟨b, o, none⟩)) (by kernel_rfl) ?_ (fun hHeld => ?_)
    · (try dsimp only)
      (first | with_reducible exact HOS.out | with_reducible exact old_drew (old_alloc HOS2.out) | with_reducible exact old_alloc (by assumption) | with_reducible exact old_call (by assumption) (by assumption) | with_reducible exact old_alloc (old_call hb6 (old_call hb5 (old_call hb4 (old_call hb3 HOS.out)))) | with_reducible exact old_set hn6 (old_set hn6 (old_set hn6 (old_set hn6 (old_set hn6 (old_set hn6 (old_set hn6 (by assumption))))))))
    refine zH 0 rfl ?_
    refine zH 1 rfl ?_
    refine zH 2 rfl ?_
    refine zH 3 rfl ?_
    refine zH 4 rfl ?_
    refine zH 6 rfl ?_
    refine zH 7 rfl ?_
    refine zH 8 rfl ?_
    refine zH 9 rfl ?_
    refine zH 10 rfl ?_
    refine zH 12 rfl ?_
    refine zH 13 rfl ?_
    refine zH 14 rfl ?_
    refine zH 15 rfl ?_
    refine zH 16 rfl ?_
    refine zH 18 rfl ?_
    refine zH 19 rfl ?_
    refine zH 20 rfl ?_
    refine zH 21 rfl ?_
    refine zH 22 rfl ?_
    refine zH 24 rfl ?_
    refine zH 25 rfl ?_
    refine zH 26 rfl ?_
    refine zH 27 rfl ?_
    refine zH 28 rfl ?_
    refine zH 29 rfl ?_
    refine zH 30 rfl ?_
    refine zH 31 rfl ?_
    refine zH 32 rfl ?_
    refine zH 33 rfl ?_
    refine zH 34 rfl ?_
    refine zH 35 rfl ?_
    refine zH 36 rfl ?_
    refine zH 37 rfl ?_
    try simp only [Act.put, List.setIfInBounds_toArray, List.set_cons_zero, List.set_cons_succ]
    refine wpAnyH_ready (rs := [5, 39]) (by kernel_rfl) (by simp) ?_
    refine AllReadyH.cons (o := ⟨_, _, _, _, _, _⟩) rfl (fun K hK => ?_) ?_
    · go_simp
      (go_at_call 104; (with_reducible refine (HT1.out _).mono ?_); rintro e w3 ⟨rfl, hb3⟩; (first | (with_reducible (have B3 := below_go (Below.refl n2 w2).drew hb3 hsz2)) | (with_reducible (have B3 := below_go ((Below.refl n2 w2).alloc hsz3 _).drew hb3 (Nat.le_trans hsz3 (alloc_below _ _).size)))); have s3 := below_size hsz3 B3)
      refine hK.out _ _ ?_ (fun hHeld => ?_)
      · (try dsimp only)
        (first | with_reducible exact HOS.out | with_reducible exact old_drew (old_alloc HOS2.out) | with_reducible exact old_alloc (by assumption) | with_reducible exact old_call (by assumption) (by assumption) | with_reducible exact old_alloc (old_call hb6 (old_call hb5 (old_call hb4 (old_call hb3 HOS.out)))) | with_reducible exact old_set hn6 (old_set hn6 (old_set hn6 (old_set hn6 (old_set hn6 (old_set hn6 (old_set hn6 (by assumption))))))))
      clear hK K
      try simp only [Act.put, List.setIfInBounds_toArray, List.set_cons_zero, List.set_cons_succ]
      refine wpAnyH_ready (rs := [11, 39]) (by kernel_rfl) (by simp) ?_
      refine AllReadyH.cons (o := ⟨_, _, _, _, _, _⟩) rfl (fun K hK => ?_) ?_
      · go_simp
        (go_at_call 104; (with_reducible refine (HT2.out _).mono ?_); rintro e w4 ⟨rfl, hb4⟩; (first | (with_reducible (have B4 := below_go B3 hb4 s3)) | (with_reducible (have B4 := below_go (B3.alloc s3 _) hb4 (Nat.le_trans s3 (alloc_below _ _).size)))); have s4 := below_size hsz3 B4)
        refine hK.out _ _ ?_ (fun hHeld => ?_)
        · (try dsimp only)
          (first | with_reducible exact HOS.out | with_reducible exact old_drew (old_alloc HOS2.out) | with_reducible exact old_alloc (by assumption) | with_reducible exact old_call (by assumption) (by assumption) | with_reducible exact old_alloc (old_call hb6 (old_call hb5 (old_call hb4 (old_call hb3 HOS.out)))) | with_reducible exact old_set hn6 (old_set hn6 (old_set hn6 (old_set hn6 (old_set hn6 (old_set hn6 (old_set hn6 (by assumption))))))))
        clear hK K
        try simp only [Act.put, List.setIfInBounds_toArray, List.set_cons_zero, List.set_cons_succ]
        refine wpAnyH_ready (rs := [17, 39]) (by kernel_rfl) (by simp) ?_
        refine AllReadyH.cons (o := ⟨_, _, _, _, _, _⟩) rfl (fun K hK => ?_) ?_
        · go_simp
          (go_at_call 104; (with_reducible refine (HT3.out _).mono ?_); rintro e w5 ⟨rfl, hb5⟩; (first | (with_reducible (have B5 := below_go B4 hb5 s4)) | (with_reducible (have B5 := below_go (B4.alloc s4 _) hb5 (Nat.le_trans s4 (alloc_below _ _).size)))); have s5 := below_size hsz3 B5)
          refine hK.out _ _ ?_ (fun hHeld => ?_)
          · (try dsimp only)
            (first | with_reducible exact HOS.out | with_reducible exact old_drew (old_alloc HOS2.out) | with_reducible exact old_alloc (by assumption) | with_reducible exact old_call (by assumption) (by assumption) | with_reducible exact old_alloc (old_call hb6 (old_call hb5 (old_call hb4 (old_call hb3 HOS.out)))) | with_reducible exact old_set hn6 (old_set hn6 (old_set hn6 (old_set hn6 (old_set hn6 (old_set hn6 (old_set hn6 (by assumption))))))))
          clear hK K
          try simp only [Act.put, List.setIfInBounds_toArray, List.set_cons_zero, List.set_cons_succ]
          refine wpAnyH_ready (rs := [23, 39]) (by kernel_rfl) (by simp) ?_
          refine AllReadyH.cons (o := ⟨_, _, _, _, _, _⟩) rfl (fun K hK => ?_) ?_
          · go_simp
            (go_at_call 107; (with_reducible refine (HT4.out _).mono ?_); rintro e w6 ⟨rfl, hb6⟩; (first | (with_reducible (have B6 := below_go B5 hb6 s5)) | (with_reducible (have B6 := below_go (B5.alloc s5 _) hb6 (Nat.le_trans s5 (alloc_below _ _).size)))); have s6 := below_size hsz3 B6; (first | (with_reducible (have hz := keepBlk hb6 (alloc_new _ _); have hn6 := s5; obtain ⟨⟨e0, e1, e2, e3, e4, e5, e6⟩, ⟨g0, g1, g2, g3, g4, g5, g6⟩, g7⟩ := seven hz)) | (with_reducible (have hz := keepBlk hb6 (keepBlk hb5 (alloc_new _ _)); have hn6 := s4; obtain ⟨⟨e0, e1, e2, e3, e4, e5, e6⟩, ⟨g0, g1, g2, g3, g4, g5, g6⟩, g7⟩ := seven hz)) | (with_reducible (have hz := keepBlk hb6 (keepBlk hb5 (keepBlk hb4 (alloc_new _ _))); have hn6 := s3; obtain ⟨⟨e0, e1, e2, e3, e4, e5, e6⟩, ⟨g0, g1, g2, g3, g4, g5, g6⟩, g7⟩ := seven hz)) | (with_reducible (have hz := keepBlk hb6 (keepBlk hb5 (keepBlk hb4 (keepBlk hb3 (alloc_new_drew _ _)))); have hn6 := hsz3; obtain ⟨⟨e0, e1, e2, e3, e4, e5, e6⟩, ⟨g0, g1, g2, g3, g4, g5, g6⟩, g7⟩ := seven hz)) | skip))
            refine hK.out _ _ ?_ (fun hHeld => ?_)
            · (try dsimp only)
              (first | with_reducible exact HOS.out | with_reducible exact old_drew (old_alloc HOS2.out) | with_reducible exact old_alloc (by assumption) | with_reducible exact old_call (by assumption) (by assumption) | with_reducible exact old_alloc (old_call hb6 (old_call hb5 (old_call hb4 (old_call hb3 HOS.out)))) | with_reducible exact old_set hn6 (old_set hn6 (old_set hn6 (old_set hn6 (old_set hn6 (old_set hn6 (old_set hn6 (by assumption))))))))
            clear hK K
            refine zH 38 rfl ?_
            try simp only [Act.put, List.setIfInBounds_toArray, List.set_cons_zero, List.set_cons_succ]
            refine wpAnyH_ready (rs := [39]) (by kernel_rfl) (by simp) ?_
            refine AllReadyH.cons (o := ⟨_, _, _, _, _, _⟩) rfl (fun K hK => ?_) ?_
            · go_simp
              refine hK.out _ _ ?_ (fun hHeld => ?_)
              · (try dsimp only)
                (first | with_reducible exact HOS.out | with_reducible exact old_drew (old_alloc HOS2.out) | with_reducible exact old_alloc (by assumption) | with_reducible exact old_call (by assumption) (by assumption) | with_reducible exact old_alloc (old_call hb6 (old_call hb5 (old_call hb4 (old_call hb3 HOS.out)))) | with_reducible exact old_set hn6 (old_set hn6 (old_set hn6 (old_set hn6 (old_set hn6 (old_set hn6 (old_set hn6 (by assumption))))))))
              clear hK K
              try simp only [Act.put, List.setIfInBounds_toArray, List.set_cons_zero, List.set_cons_succ]
              refine wpAnyH_ready (rs := [40]) (by kernel_rfl) (by simp) ?_
              refine AllReadyH.cons (o := ⟨_, _, _, _, _, _⟩) rfl (fun K hK => ?_) ?_
              · go_simp
                refine hK.out _ _ ?_ (fun hHeld => ?_)
                · (try dsimp only)
                  (first | with_reducible exact HOS.out | with_reducible exact old_drew (old_alloc HOS2.out) | with_reducible exact old_alloc (by assumption) | with_reducible exact old_call (by assumption) (by assumption) | with_reducible exact old_alloc (old_call hb6 (old_call hb5 (old_call hb4 (old_call hb3 HOS.out)))) | with_reducible exact old_set hn6 (old_set hn6 (old_set hn6 (old_set hn6 (old_set hn6 (old_set hn6 (old_set hn6 (by assumption))))))))
                clear hK K
                try simp only [Act.put, List.setIfInBounds_toArray, List.set_cons_zero, List.set_cons_succ]
                refine wpAnyH_done (by kernel_rfl) ?_ _
                refine NoPanic.normal ?_
                go_wp2_with fail
                go_meet
                case rel =>
                  refine ⟨_, rfl, ?_, ?_⟩
                  · first | exact alloc_new w6 _ | (rw [HQ1.out, HQ2.out]; exact alloc_new w6 _)
                  · exact B6.alloc s6 _
              exact AllReadyH.nil
            exact AllReadyH.nil
          refine AllReadyH.cons (o := ⟨_, _, _, _, _, _⟩) rfl (fun K hK => ?_) ?_
          · go_simp
            refine hK.out _ _ ?_ (fun hHeld => ?_)
            · (try dsimp only)
              (first | with_reducible exact HOS.out | with_reducible exact old_drew (old_alloc HOS2.out) | with_reducible exact old_alloc (by assumption) | with_reducible exact old_call (by assumption) (by assumption) | with_reducible exact old_alloc (old_call hb6 (old_call hb5 (old_call hb4 (old_call hb3 HOS.out)))) | with_reducible exact old_set hn6 (old_set hn6 (old_set hn6 (old_set hn6 (old_set hn6 (old_set hn6 (old_set hn6 (by assumption))))))))
            clear hK K
            try simp only [Act.put, List.setIfInBounds_toArray, List.set_cons_zero, List.set_cons_succ]
            refine wpAnyH_ready (rs := [23]) (by kernel_rfl) (by simp) ?_
            refine AllReadyH.cons (o := ⟨_, _, _, _, _, _⟩) rfl (fun K hK => ?_) ?_
            · go_simp
              (go_at_call 107; (with_reducible refine (HT4.out _).mono ?_); rintro e w6 ⟨rfl, hb6⟩; (first | (with_reducible (have B6 := below_go B5 hb6 s5)) | (with_reducible (have B6 := below_go (B5.alloc s5 _) hb6 (Nat.le_trans s5 (alloc_below _ _).size)))); have s6 := below_size hsz3 B6; (first | (with_reducible (have hz := keepBlk hb6 (alloc_new _ _); have hn6 := s5; obtain ⟨⟨e0, e1, e2, e3, e4, e5, e6⟩, ⟨g0, g1, g2, g3, g4, g5, g6⟩, g7⟩ := seven hz)) | (with_reducible (have hz := keepBlk hb6 (keepBlk hb5 (alloc_new _ _)); have hn6 := s4; obtain ⟨⟨e0, e1, e2, e3, e4, e5, e6⟩, ⟨g0, g1, g2, g3, g4, g5, g6⟩, g7⟩ := seven hz)) | (with_reducible (have hz := keepBlk hb6 (keepBlk hb5 (keepBlk hb4 (alloc_new _ _))); have hn6 := s3; obtain ⟨⟨e0, e1, e2, e3, e4, e5, e6⟩, ⟨g0, g1, g2, g3, g4, g5, g6⟩, g7⟩ := seven hz)) | (with_reducible (have hz := keepBlk hb6 (keepBlk hb5 (keepBlk hb4 (keepBlk hb3 (alloc_new_drew _ _)))); have hn6 := hsz3; obtain ⟨⟨e0, e1, e2, e3, e4, e5, e6⟩, ⟨g0, g1, g2, g3, g4, g5, g6⟩, g7⟩ := seven hz)) | skip))
              refine hK.out _ _ ?_ (fun hHeld => ?_)
              · (try dsimp only)
                (first | with_reducible exact HOS.out | with_reducible exact old_drew (old_alloc HOS2.out) | with_reducible exact old_alloc (by assumption) | with_reducible exact old_call (by assumption) (by assumption) | with_reducible exact old_alloc (old_call hb6 (old_call hb5 (old_call hb4 (old_call hb3 HOS.out)))) | with_reducible exact old_set hn6 (old_set hn6 (old_set hn6 (old_set hn6 (old_set hn6 (old_set hn6 (old_set hn6 (by assumption))))))))
              clear hK K
              refine zH 38 rfl ?_
              try simp only [Act.put, List.setIfInBounds_toArray, List.set_cons_zero, List.set_cons_succ]
              refine wpAnyH_ready (rs := [40]) (by kernel_rfl) (by simp) ?_
              refine AllReadyH.cons (o := ⟨_, _, _, _, _, _⟩) rfl (fun K hK => ?_) ?_
              · go_simp
                refine hK.out _ _ ?_ (fun hHeld => ?_)
                · (try dsimp only)
                  (first | with_reducible exact HOS.out | with_reducible exact old_drew (old_alloc HOS2.out) | with_reducible exact old_alloc (by assumption) | with_reducible exact old_call (by assumption) (by assumption) | with_reducible exact old_alloc (old_call hb6 (old_call hb5 (old_call hb4 (old_call hb3 HOS.out)))) | with_reducible exact old_set hn6 (old_set hn6 (old_set hn6 (old_set hn6 (old_set hn6 (old_set hn6 (old_set hn6 (by assumption))))))))
                clear hK K
                try simp only [Act.put, List.setIfInBounds_toArray, List.set_cons_zero, List.set_cons_succ]
                refine wpAnyH_done (by kernel_rfl) ?_ _
                refine NoPanic.normal ?_
                go_wp2_with fail
                go_meet
                case rel =>
                  refine ⟨_, rfl, ?_, ?_⟩
                  · first | exact set7 _ _ _ _ _ _ _ hz | (rw [HQ1.out, HQ2.out]; exact set7 _ _ _ _ _ _ _ hz)
                  · exact below7 _ _ _ _ _ _ _ B6 hn6
              exact AllReadyH.nil
            exact AllReadyH.nil
          exact AllReadyH.nil
        refine AllReadyH.cons (o := ⟨_, _, _, _, _, _⟩) rfl (fun K hK => ?_) ?_
        · go_simp
          refine hK.out _ _ ?_ (fun hHeld => ?_)
          · (try dsimp only)
            (first | with_reducible exact HOS.out | with_reducible exact old_drew (old_alloc HOS2.out) | with_reducible exact old_alloc (by assumption) | with_reducible exact old_call (by assumption) (by assumption) | with_reducible exact old_alloc (old_call hb6 (old_call hb5 (old_call hb4 (old_call hb3 HOS.out)))) | with_reducible exact old_set hn6 (old_set hn6 (old_set hn6 (old_set hn6 (old_set hn6 (old_set hn6 (old_set hn6 (by assumption))))))))
          clear hK K
          try simp only [Act.put, List.setIfInBounds_toArray, List.set_cons_zero, List.set_cons_succ]
          refine wpAnyH_ready (rs := [17]) (by kernel_rfl) (by simp) ?_
          refine AllReadyH.cons (o := ⟨_, _, _, _, _, _⟩) rfl (fun K hK => ?_) ?_
          · go_simp
            (go_at_call 104; (with_reducible refine (HT3.out _).mono ?_); rintro e w5 ⟨rfl, hb5⟩; (first | (with_reducible (have B5 := below_go B4 hb5 s4)) | (with_reducible (have B5 := below_go (B4.alloc s4 _) hb5 (Nat.le_trans s4 (alloc_below _ _).size)))); have s5 := below_size hsz3 B5)
            refine hK.out _ _ ?_ (fun hHeld => ?_)
            · (try dsimp only)
              (first | with_reducible exact HOS.out | with_reducible exact old_drew (old_alloc HOS2.out) | with_reducible exact old_alloc (by assumption) | with_reducible exact old_call (by assumption) (by assumption) | with_reducible exact old_alloc (old_call hb6 (old_call hb5 (old_call hb4 (old_call hb3 HOS.out)))) | with_reducible exact old_set hn6 (old_set hn6 (old_set hn6 (old_set hn6 (old_set hn6 (old_set hn6 (old_set hn6 (by assumption))))))))
            clear hK K
            try simp only [Act.put, List.setIfInBounds_toArray, List.set_cons_zero, List.set_cons_succ]
            refine wpAnyH_ready (rs := [23]) (by kernel_rfl) (by simp) ?_
            refine AllReadyH.cons (o := ⟨_, _, _, _, _, _⟩) rfl (fun K hK => ?_) ?_
            · go_simp
              (go_at_call 107; (with_reducible refine (HT4.out _).mono ?_); rintro e w6 ⟨rfl, hb6⟩; (first | (with_reducible (have B6 := below_go B5 hb6 s5)) | (with_reducible (have B6 := below_go (B5.alloc s5 _) hb6 (Nat.le_trans s5 (alloc_below _ _).size)))); have s6 := below_size hsz3 B6; (first | (with_reducible (have hz := keepBlk hb6 (alloc_new _ _); have hn6 := s5; obtain ⟨⟨e0, e1, e2, e3, e4, e5, e6⟩, ⟨g0, g1, g2, g3, g4, g5, g6⟩, g7⟩ := seven hz)) | (with_reducible (have hz := keepBlk hb6 (keepBlk hb5 (alloc_new _ _)); have hn6 := s4; obtain ⟨⟨e0, e1, e2, e3, e4, e5, e6⟩, ⟨g0, g1, g2, g3, g4, g5, g6⟩, g7⟩ := seven hz)) | (with_reducible (have hz := keepBlk hb6 (keepBlk hb5 (keepBlk hb4 (alloc_new _ _))); have hn6 := s3; obtain ⟨⟨e0, e1, e2, e3, e4, e5, e6⟩, ⟨g0, g1, g2, g3, g4, g5, g6⟩, g7⟩ := seven hz)) | (with_reducible (have hz := keepBlk hb6 (keepBlk hb5 (keepBlk hb4 (keepBlk hb3 (alloc_new_drew _ _)))); have hn6 := hsz3; obtain ⟨⟨e0, e1, e2, e3, e4, e5, e6⟩, ⟨g0, g1, g2, g3, g4, g5, g6⟩, g7⟩ := seven hz)) | skip))
              refine hK.out _ _ ?_ (fun hHeld => ?_)
              · (try dsimp only)
                (first | with_reducible exact HOS.out | with_reducible exact old_drew (old_alloc HOS2.out) | with_reducible exact old_alloc (by assumption) | with_reducible exact old_call (by assumption) (by assumption) | with_reducible exact old_alloc (old_call hb6 (old_call hb5 (old_call hb4 (old_call hb3 HOS.out)))) | with_reducible exact old_set hn6 (old_set hn6 (old_set hn6 (old_set hn6 (old_set hn6 (old_set hn6 (old_set hn6 (by assumption))))))))
              clear hK K
              refine zH 38 rfl ?_
              try simp only [Act.put, List.setIfInBounds_toArray, List.set_cons_zero, List.set_cons_succ]
              refine wpAnyH_ready (rs := [40]) (by kernel_rfl) (by simp) ?_
              refine AllReadyH.cons (o := ⟨_, _, _, _, _, _⟩) rfl (fun K hK => ?_) ?_
              · go_simp
                refine hK.out _ _ ?_ (fun hHeld => ?_)
                · (try dsimp only)
                  (first | with_reducible exact HOS.out | with_reducible exact old_drew (old_alloc HOS2.out) | with_reducible exact old_alloc (by assumption) | with_reducible exact old_call (by assumption) (by assumption) | with_reducible exact old_alloc (old_call hb6 (old_call hb5 (old_call hb4 (old_call hb3 HOS.out)))) | with_reducible exact old_set hn6 (old_set hn6 (old_set hn6 (old_set hn6 (old_set hn6 (old_set hn6 (old_set hn6 (by assumption))))))))
                clear hK K
                try simp only [Act.put, List.setIfInBounds_toArray, List.set_cons_zero, List.set_cons_succ]
                refine wpAnyH_done (by kernel_rfl) ?_ _
                refine NoPanic.normal ?_
                go_wp2_with fail
                go_meet
                case rel =>
                  refine ⟨_, rfl, ?_, ?_⟩
                  · first | exact set7 _ _ _ _ _ _ _ hz | (rw [HQ1.out, HQ2.out]; exact set7 _ _ _ _ _ _ _ hz)
                  · exact below7 _ _ _ _ _ _ _ B6 hn6
              exact AllReadyH.nil
            exact AllReadyH.nil
          exact AllReadyH.nil
        exact AllReadyH.nil
      refine AllReadyH.cons (o := ⟨_, _, _, _, _, _⟩) rfl (fun K hK => ?_) ?_
      · go_simp
        refine hK.out _ _ ?_ (fun hHeld => ?_)
        · (try dsimp only)
          (first | with_reducible exact HOS.out | with_reducible exact old_drew (old_alloc HOS2.out) | with_reducible exact old_alloc (by assumption) | with_reducible exact old_call (by assumption) (by assumption) | with_reducible exact old_alloc (old_call hb6 (old_call hb5 (old_call hb4 (old_call hb3 HOS.out)))) | with_reducible exact old_set hn6 (old_set hn6 (old_set hn6 (old_set hn6 (old_set hn6 (old_set hn6 (old_set hn6 (by assumption))))))))
        clear hK K
        try simp only [Act.put, List.setIfInBounds_toArray, List.set_cons_zero, List.set_cons_succ]
        refine wpAnyH_ready (rs := [11]) (by kernel_rfl) (by simp) ?_
        refine AllReadyH.cons (o := ⟨_, _, _, _, _, _⟩) rfl (fun K hK => ?_) ?_
        · go_simp
          (go_at_call 104; (with_reducible refine (HT2.out _).mono ?_); rintro e w4 ⟨rfl, hb4⟩; (first | (with_reducible (have B4 := below_go B3 hb4 s3)) | (with_reducible (have B4 := below_go (B3.alloc s3 _) hb4 (Nat.le_trans s3 (alloc_below _ _).size)))); have s4 := below_size hsz3 B4)
          refine hK.out _ _ ?_ (fun hHeld => ?_)
          · (try dsimp only)
            (first | with_reducible exact HOS.out | with_reducible exact old_drew (old_alloc HOS2.out) | with_reducible exact old_alloc (by assumption) | with_reducible exact old_call (by assumption) (by assumption) | with_reducible exact old_alloc (old_call hb6 (old_call hb5 (old_call hb4 (old_call hb3 HOS.out)))) | with_reducible exact old_set hn6 (old_set hn6 (old_set hn6 (old_set hn6 (old_set hn6 (old_set hn6 (old_set hn6 (by assumption))))))))
          clear hK K
          try simp only [Act.put, List.setIfInBounds_toArray, List.set_cons_zero, List.set_cons_succ]
          refine wpAnyH_ready (rs := [17]) (by kernel_rfl) (by simp) ?_
          refine AllReadyH.cons (o := ⟨_, _, _, _, _, _⟩) rfl (fun K hK => ?_) ?_
          · go_simp
            (go_at_call 104; (with_reducible refine (HT3.out _).mono ?_); rintro e w5 ⟨rfl, hb5⟩; (first | (with_reducible (have B5 := below_go B4 hb5 s4)) | (with_reducible (have B5 := below_go (B4.alloc s4 _) hb5 (Nat.le_trans s4 (alloc_below _ _).size)))); have s5 := below_size hsz3 B5)
            refine hK.out _ _ ?_ (fun hHeld => ?_)
            · (try dsimp only)
              (first | with_reducible exact HOS.out | with_reducible exact old_drew (old_alloc HOS2.out) | with_reducible exact old_alloc (by assumption) | with_reducible exact old_call (by assumption) (by assumption) | with_reducible exact old_alloc (old_call hb6 (old_call hb5 (old_call hb4 (old_call hb3 HOS.out)))) | with_reducible exact old_set hn6 (old_set hn6 (old_set hn6 (old_set hn6 (old_set hn6 (old_set hn6 (old_set hn6 (by assumption))))))))
            clear hK K
            try simp only [Act.put, List.setIfInBounds_toArray, List.set_cons_zero, List.set_cons_succ]
            refine wpAnyH_ready (rs := [23]) (by kernel_rfl) (by simp) ?_
            refine AllReadyH.cons (o := ⟨_, _, _, _, _, _⟩) rfl (fun K hK => ?_) ?_
            · go_simp
              (go_at_call 107; (with_reducible refine (HT4.out _).mono ?_); rintro e w6 ⟨rfl, hb6⟩; (first | (with_reducible (have B6 := below_go B5 hb6 s5)) | (with_reducible (have B6 := below_go (B5.alloc s5 _) hb6 (Nat.le_trans s5 (alloc_below _ _).size)))); have s6 := below_size hsz3 B6; (first | (with_reducible (have hz := keepBlk hb6 (alloc_new _ _); have hn6 := s5; obtain ⟨⟨e0, e1, e2, e3, e4, e5, e6⟩, ⟨g0, g1, g2, g3, g4, g5, g6⟩, g7⟩ := seven hz)) | (with_reducible (have hz := keepBlk hb6 (keepBlk hb5 (alloc_new _ _)); have hn6 := s4; obtain ⟨⟨e0, e1, e2, e3, e4, e5, e6⟩, ⟨g0, g1, g2, g3, g4, g5, g6⟩, g7⟩ := seven hz)) | (with_reducible (have hz := keepBlk hb6 (keepBlk hb5 (keepBlk hb4 (alloc_new _ _))); have hn6 := s3; obtain ⟨⟨e0, e1, e2, e3, e4, e5, e6⟩, ⟨g0, g1, g2, g3, g4, g5, g6⟩, g7⟩ := seven hz)) | (with_reducible (have hz := keepBlk hb6 (keepBlk hb5 (keepBlk hb4 (keepBlk hb3 (alloc_new_drew _ _)))); have hn6 := hsz3; obtain ⟨⟨e0, e1, e2, e3, e4, e5, e6⟩, ⟨g0, g1, g2, g3, g4, g5, g6⟩, g7⟩ := seven hz)) | skip))
              refine hK.out _ _ ?_ (fun hHeld => ?_)
              · (try dsimp only)
                (first | with_reducible exact HOS.out | with_reducible exact old_drew (old_alloc HOS2.out) | with_reducible exact old_alloc (by assumption) | with_reducible exact old_call (by assumption) (by assumption) | with_reducible exact old_alloc (old_call hb6 (old_call hb5 (old_call hb4 (old_call hb3 HOS.out)))) | with_reducible exact old_set hn6 (old_set hn6 (old_set hn6 (old_set hn6 (old_set hn6 (old_set hn6 (old_set hn6 (by assumption))))))))
              clear hK K
              refine zH 38 rfl ?_
              try simp only [Act.put, List.setIfInBounds_toArray, List.set_cons_zero, List.set_cons_succ]
              refine wpAnyH_ready (rs := [40]) (by kernel_rfl) (by simp) ?_
              refine AllReadyH.cons (o := ⟨_, _, _, _, _, _⟩) rfl (fun K hK => ?_) ?_
              · go_simp
                refine hK.out _ _ ?_ (fun hHeld => ?_)
                · (try dsimp only)
                  (first | with_reducible exact HOS.out | with_reducible exact old_drew (old_alloc HOS2.out) | with_reducible exact old_alloc (by assumption) | with_reducible exact old_call (by assumption) (by assumption) | with_reducible exact old_alloc (old_call hb6 (old_call hb5 (old_call hb4 (old_call hb3 HOS.out)))) | with_reducible exact old_set hn6 (old_set hn6 (old_set hn6 (old_set hn6 (old_set hn6 (old_set hn6 (old_set hn6 (by assumption))))))))
                clear hK K
                try simp only [Act.put, List.setIfInBounds_toArray, List.set_cons_zero, List.set_cons_succ]
                refine wpAnyH_done (by kernel_rfl) ?_ _
                refine NoPanic.normal ?_
                go_wp2_with fail
                go_meet
                case rel =>
                  refine ⟨_, rfl, ?_, ?_⟩
                  · first | exact set7 _ _ _ _ _ _ _ hz | (rw [HQ1.out, HQ2.out]; exact set7 _ _ _ _ _ _ _ hz)
                  · exact below7 _ _ _ _ _ _ _ B6 hn6
              exact AllReadyH.nil
            exact AllReadyH.nil
          exact AllReadyH.nil
        exact AllReadyH.nil
      exact AllReadyH.nil
    refine AllReadyH.cons (o := ⟨_, _, _, _, _, _⟩) rfl (fun K hK => ?_) ?_
    · go_simp
      refine hK.out _ _ ?_ (fun hHeld => ?_)
      · (try dsimp only)
        (first | with_reducible exact HOS.out | with_reducible exact old_drew (old_alloc HOS2.out) | with_reducible exact old_alloc (by assumption) | with_reducible exact old_call (by assumption) (by assumption) | with_reducible exact old_alloc (old_call hb6 (old_call hb5 (old_call hb4 (old_call hb3 HOS.out)))) | with_reducible exact old_set hn6 (old_set hn6 (old_set hn6 (old_set hn6 (old_set hn6 (old_set hn6 (old_set hn6 (by assumption))))))))
      clear hK K
      try simp only [Act.put, List.setIfInBounds_toArray, List.set_cons_zero, List.set_cons_succ]
      refine wpAnyH_ready (rs := [5]) (by kernel_rfl) (by simp) ?_
      refine AllReadyH.cons (o := ⟨_, _, _, _, _, _⟩) rfl (fun K hK => ?_) ?_
      · go_simp
        (go_at_call 104; (with_reducible refine (HT1.out _).mono ?_); rintro e w3 ⟨rfl, hb3⟩; (first | (with_reducible (have B3 := below_go (Below.refl n2 w2).drew hb3 hsz2)) | (with_reducible (have B3 := below_go ((Below.refl n2 w2).alloc hsz3 _).drew hb3 (Nat.le_trans hsz3 (alloc_below _ _).size)))); have s3 := below_size hsz3 B3)
        refine hK.out _ _ ?_ (fun hHeld => ?_)
        · (try dsimp only)
          (first | with_reducible exact HOS.out | with_reducible exact old_drew (old_alloc HOS2.out) | with_reducible exact old_alloc (by assumption) | with_reducible exact old_call (by assumption) (by assumption) | with_reducible exact old_alloc (old_call hb6 (old_call hb5 (old_call hb4 (old_call hb3 HOS.out)))) | with_reducible exact old_set hn6 (old_set hn6 (old_set hn6 (old_set hn6 (old_set hn6 (old_set hn6 (old_set hn6 (by assumption))))))))
        clear hK K
        try simp only [Act.put, List.setIfInBounds_toArray, List.set_cons_zero, List.set_cons_succ]
        refine wpAnyH_ready (rs := [11]) (by kernel_rfl) (by simp) ?_
        refine AllReadyH.cons (o := ⟨_, _, _, _, _, _⟩) rfl (fun K hK => ?_) ?_
        · go_simp
          (go_at_call 104; (with_reducible refine (HT2.out _).mono ?_); rintro e w4 ⟨rfl, hb4⟩; (first | (with_reducible (have B4 := below_go B3 hb4 s3)) | (with_reducible (have B4 := below_go (B3.alloc s3 _) hb4 (Nat.le_trans s3 (alloc_below _ _).size)))); have s4 := below_size hsz3 B4)
          refine hK.out _ _ ?_ (fun hHeld => ?_)
          · (try dsimp only)
            (first | with_reducible exact HOS.out | with_reducible exact old_drew (old_alloc HOS2.out) | with_reducible exact old_alloc (by assumption) | with_reducible exact old_call (by assumption) (by assumption) | with_reducible exact old_alloc (old_call hb6 (old_call hb5 (old_call hb4 (old_call hb3 HOS.out)))) | with_reducible exact old_set hn6 (old_set hn6 (old_set hn6 (old_set hn6 (old_set hn6 (old_set hn6 (old_set hn6 (by assumption))))))))
          clear hK K
          try simp only [Act.put, List.setIfInBounds_toArray, List.set_cons_zero, List.set_cons_succ]
          refine wpAnyH_ready (rs := [17]) (by kernel_rfl) (by simp) ?_
          refine AllReadyH.cons (o := ⟨_, _, _, _, _, _⟩) rfl (fun K hK => ?_) ?_
          · go_simp
            (go_at_call 104; (with_reducible refine (HT3.out _).mono ?_); rintro e w5 ⟨rfl, hb5⟩; (first | (with_reducible (have B5 := below_go B4 hb5 s4)) | (with_reducible (have B5 := below_go (B4.alloc s4 _) hb5 (Nat.le_trans s4 (alloc_below _ _).size)))); have s5 := below_size hsz3 B5)
            refine hK.out _ _ ?_ (fun hHeld => ?_)
            · (try dsimp only)
              (first | with_reducible exact HOS.out | with_reducible exact old_drew (old_alloc HOS2.out) | with_reducible exact old_alloc (by assumption) | with_reducible exact old_call (by assumption) (by assumption) | with_reducible exact old_alloc (old_call hb6 (old_call hb5 (old_call hb4 (old_call hb3 HOS.out)))) | with_reducible exact old_set hn6 (old_set hn6 (old_set hn6 (old_set hn6 (old_set hn6 (old_set hn6 (old_set hn6 (by assumption))))))))
            clear hK K
            try simp only [Act.put, List.setIfInBounds_toArray, List.set_cons_zero, List.set_cons_succ]
            refine wpAnyH_ready (rs := [23]) (by kernel_rfl) (by simp) ?_
            refine AllReadyH.cons (o := ⟨_, _, _, _, _, _⟩) rfl (fun K hK => ?_) ?_
            · go_simp
              (go_at_call 107; (with_reducible refine (HT4.out _).mono ?_); rintro e w6 ⟨rfl, hb6⟩; (first | (with_reducible (have B6 := below_go B5 hb6 s5)) | (with_reducible (have B6 := below_go (B5.alloc s5 _) hb6 (Nat.le_trans s5 (alloc_below _ _).size)))); have s6 := below_size hsz3 B6; (first | (with_reducible (have hz := keepBlk hb6 (alloc_new _ _); have hn6 := s5; obtain ⟨⟨e0, e1, e2, e3, e4, e5, e6⟩, ⟨g0, g1, g2, g3, g4, g5, g6⟩, g7⟩ := seven hz)) | (with_reducible (have hz := keepBlk hb6 (keepBlk hb5 (alloc_new _ _)); have hn6 := s4; obtain ⟨⟨e0, e1, e2, e3, e4, e5, e6⟩, ⟨g0, g1, g2, g3, g4, g5, g6⟩, g7⟩ := seven hz)) | (with_reducible (have hz := keepBlk hb6 (keepBlk hb5 (keepBlk hb4 (alloc_new _ _))); have hn6 := s3; obtain ⟨⟨e0, e1, e2, e3, e4, e5, e6⟩, ⟨g0, g1, g2, g3, g4, g5, g6⟩, g7⟩ := seven hz)) | (with_reducible (have hz := keepBlk hb6 (keepBlk hb5 (keepBlk hb4 (keepBlk hb3 (alloc_new_drew _ _)))); have hn6 := hsz3; obtain ⟨⟨e0, e1, e2, e3, e4, e5, e6⟩, ⟨g0, g1, g2, g3, g4, g5, g6⟩, g7⟩ := seven hz)) | skip))
              refine hK.out _ _ ?_ (fun hHeld => ?_)
              · (try dsimp only)
                (first | with_reducible exact HOS.out | with_reducible exact old_drew (old_alloc HOS2.out) | with_reducible exact old_alloc (by assumption) | with_reducible exact old_call (by assumption) (by assumption) | with_reducible exact old_alloc (old_call hb6 (old_call hb5 (old_call hb4 (old_call hb3 HOS.out)))) | with_reducible exact old_set hn6 (old_set hn6 (old_set hn6 (old_set hn6 (old_set hn6 (old_set hn6 (old_set hn6 (by assumption))))))))
              clear hK K
              refine zH 38 rfl ?_
              try simp only [Act.put, List.setIfInBounds_toArray, List.set_cons_zero, List.set_cons_succ]
              refine wpAnyH_ready (rs := [40]) (by kernel_rfl) (by simp) ?_
              refine AllReadyH.cons (o := ⟨_, _, _, _, _, _⟩) rfl (fun K hK => ?_) ?_
              · go_simp
                refine hK.out _ _ ?_ (fun hHeld => ?_)
                · (try dsimp only)
                  (first | with_reducible exact HOS.out | with_reducible exact old_drew (old_alloc HOS2.out) | with_reducible exact old_alloc (by assumption) | with_reducible exact old_call (by assumption) (by assumption) | with_reducible exact old_alloc (old_call hb6 (old_call hb5 (old_call hb4 (old_call hb3 HOS.out)))) | with_reducible exact old_set hn6 (old_set hn6 (old_set hn6 (old_set hn6 (old_set hn6 (old_set hn6 (old_set hn6 (by assumption))))))))
                clear hK K
                try simp only [Act.put, List.setIfInBounds_toArray, List.set_cons_zero, List.set_cons_succ]
                refine wpAnyH_done (by kernel_rfl) ?_ _
                refine NoPanic.normal ?_
                go_wp2_with fail
                go_meet
                case rel =>
                  refine ⟨_, rfl, ?_, ?_⟩
                  · first | exact set7 _ _ _ _ _ _ _ hz | (rw [HQ1.out, HQ2.out]; exact set7 _ _ _ _ _ _ _ hz)
                  · exact below7 _ _ _ _ _ _ _ B6 hn6
              exact AllReadyH.nil
            exact AllReadyH.nil
          exact AllReadyH.nil
        exact AllReadyH.nil
      exact AllReadyH.nil
    exact AllReadyH.nil
  case rest =>
    clear HT1 HT2 HT3 HT4 HB2 HQ1 HQ2 a0 a1 a2 a3 a4 a5 a6 b0 b1 b2 b3 b4 b5 b6 c0 c1 c2 c3 c4 c5 c6
    obtain ⟨n6, rfl, k6, hbF⟩ := hcut
    obtain ⟨⟨d0, d1, d2, d3, d4, d5, d6⟩, _, r3⟩ := seven k6
    obtain ⟨⟨_, _, _, a3, _, a5, _⟩, _, r1⟩ := seven ((hbF.block _ s1).trans HL1.out)
    obtain ⟨⟨_, _, _, _, _, b5, b6⟩, _, r2⟩ := seven ((hbF.block _ s2).trans HL2.out)
    obtain ⟨⟨c0, c1, c2, c3, c4, c5, c6⟩, _, r4⟩ := seven ((hbF.block _ s3).trans HL3.out)
    have HR1 := hid r1
    clear k6 s1 s2 s3 HL3
    have hq1 := fun w => eql_hI yt ya yb yn yl ym yp 0 0 0 0 0 0 0 w
    have hq2 := fun w => neq_hI z1 z2 z3 z4 q1 q2 yp yt ya yb yn yl ym yp w
    simp only [hI_dec] at hq1 hq2
    have hbW := HTR.out wc hbF
    have HFW : Hid (Below w.heap.size w wc) := by show Below _ _ _; rw [HBS.out]; exact hbW
    clear hbW
    have HE0 : Hid ((⟨yt, ya, yb, yn, yl, ym, yp⟩ : Has) = has0 ↔ (⟨yt, ya, yb, yn, yl, ym, yp⟩ : Has) = ⟨0, 0, 0, 0, 0, 0, 0⟩) := Iff.rfl
    cases hd1 : decide ((⟨yt, ya, yb, yn, yl, ym, yp⟩ : Has) = ⟨0, 0, 0, 0, 0, 0, 0⟩) with
    | true =>
      rw [hd1] at hq1
      have HA2 : Hid (ans = false) := by show _ = _; rw [← HANS.out, if_pos (Or.inl (HE0.out.2 (of_decide_eq_true hd1)))]
      clear hd1 HANS HE0
      go_wp2
      go_ret
      exact ⟨by rw [HA2.out]; rfl, HFW.out⟩
    | false =>
      rw [hd1] at hq1
      have HN0 := hid (fun h => of_decide_eq_false hd1 (HE0.out.1 h))
      clear hd1 HE0
      cases hd2 : decide ((⟨z1, z2, z3, z4, q1, q2, yp⟩ : Has) = ⟨yt, ya, yb, yn, yl, ym, yp⟩) with
      | false =>
        rw [hd2] at hq2
        have HA2 : Hid (ans = false) := by show _ = _; rw [← HANS.out, if_pos (Or.inr (Or.inl (of_decide_eq_false hd2)))]
        clear hd2 HANS HN0
        go_wp2
        go_ret
        exact ⟨by rw [HA2.out]; rfl, HFW.out⟩
      | true =>
        rw [hd2] at hq2
        have hwr := HWR.out
        by_cases hlen : (nm : Int) = yp * nl
        · have HA2 : Hid (ans = (la && lf)) := by
            show _ = _
            rw [← HANS.out, if_neg]
            rintro (h | h | h)
            · exact HN0.out h
            · exact h (of_decide_eq_true hd2)
            · exact h hlen
          have e1 : ((nm : Int) != yp * nl) = false := by simpa using hlen
          have HCA := hid (HLA2.out wc hbF)
          have HBF := hid hbF
          clear hd2 HANS HN0 hlen hbF HLA2
          cases la with
          | false =>
            go_wp2_with fail
            refine HCA.out.mono ?_
            rintro e w7 ⟨rfl, hb7⟩
            have hbe := HFW.out.trans (hb7.mono HFW.out.size)
            clear HCA hb7
            go_wp2
            go_ret
            exact ⟨by rw [HA2.out]; rfl, hbe⟩
          | true =>
            go_wp2_with fail
            refine HCA.out.mono ?_
            rintro e w7 ⟨rfl, hb7⟩
            have hbe := HFW.out.trans (hb7.mono HFW.out.size)
            have HCF := hid (HLF2.out w7 (by rw [← HBS.out]; exact hbe))
            have g5 := (hb7.cell (p := ⟨bs, 5, none⟩) HR1.out).trans a5
            have g6 := (hb7.cell (p := ⟨bs + 1, 6, none⟩) r2).trans b6
            clear HCA hb7 a3 a5 b5 b6 c0 c1 c2 c3 c4 c5 c6 d0 d1 d2 d3 d4 d5 d6
            go_wp2_with fail
            refine HCF.out.mono ?_
            rintro e w8 ⟨rfl, hb8⟩
            have hbe8 := hbe.trans (hb8.mono hbe.size)
            clear HCF hb8
            go_wp2
            go_ret
            exact ⟨by rw [HA2.out]; rfl, hbe8⟩
        · have HA2 : Hid (ans = false) := by show _ = _; rw [← HANS.out, if_pos (Or.inr (Or.inr hlen))]
          have e1 : ((nm : Int) != yp * nl) = true := by simpa using hlen
          clear hd2 HANS HN0 hlen
          go_wp2
          go_ret
          exact ⟨by rw [HA2.out]; rfl, HFW.out⟩
end Go.Proofs.YtimnjkdhcnhkoaaDoor.ShG
