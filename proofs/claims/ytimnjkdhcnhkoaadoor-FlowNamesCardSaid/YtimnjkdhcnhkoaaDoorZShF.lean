/- Walk over shape.mayEnd. -/
import Derived.Test.YtimnjkdhcnhkoaaDoorZShEToShER
import Derived.Test.YtimnjkdhcnhkoaaDoorZShBToShV
import Derived.Test.YtimnjkdhcnhkoaaDoorZTyBToTyREG
import Derived.Deep.Cut
import Derived.Deep.CutRange
import Derived.Deep.DeepCutAuto
namespace Go.Proofs.YtimnjkdhcnhkoaaDoor.ShF
open Go.RowKit Go.Lib SetP IntO TyM TyP TyB TyC ShM ShP ShA ShB ShC ShE ShQ

/-! old memory, as a region that draws its order keeps it -/
theorem old_start (w : World) : w.heap.size ≤ w.drew.heap.size ∧ ∀ b o, b < w.heap.size → w.drew.cell? ⟨b, o, none⟩ = w.cell? ⟨b, o, none⟩ := ⟨Nat.le_refl _, fun _ _ _ => rfl⟩
theorem old_call {w0 wp wa : World} {n : Nat} (hb : Below wp.heap.size wp wa) (h : n ≤ wp.heap.size ∧ ∀ b o, b < n → wp.cell? ⟨b, o, none⟩ = w0.cell? ⟨b, o, none⟩) : n ≤ wa.heap.size ∧ ∀ b o, b < n → wa.cell? ⟨b, o, none⟩ = w0.cell? ⟨b, o, none⟩ :=
  ⟨Nat.le_trans h.1 hb.size, fun b o hlt => (hb.cell (p := ⟨b, o, none⟩) (Nat.lt_of_lt_of_le hlt h.1)).trans (h.2 b o hlt)⟩
theorem old_alloc {w0 wp : World} {n : Nat} {x : Obj} (h : n ≤ wp.heap.size ∧ ∀ b o, b < n → wp.cell? ⟨b, o, none⟩ = w0.cell? ⟨b, o, none⟩) : n ≤ (wp.alloc x).heap.size ∧ ∀ b o, b < n → (wp.alloc x).cell? ⟨b, o, none⟩ = w0.cell? ⟨b, o, none⟩ :=
  old_call (alloc_below wp x) h
theorem old_set {w0 wp : World} {n p i : Nat} {v : Value} (hp : n ≤ p) (h : n ≤ wp.heap.size ∧ ∀ b o, b < n → wp.cell? ⟨b, o, none⟩ = w0.cell? ⟨b, o, none⟩) : n ≤ (wp.setCell ⟨p, i, none⟩ v).heap.size ∧ ∀ b o, b < n → (wp.setCell ⟨p, i, none⟩ v).cell? ⟨b, o, none⟩ = w0.cell? ⟨b, o, none⟩ := by
  refine ⟨by simpa [World.setCell] using h.1, fun b o hlt => ?_⟩
  rw [← h.2 b o hlt]
  have := Below.heap_setCell wp ⟨p, i, none⟩ v b (fun e => by simp at e; omega)
  unfold World.cell?
  rw [this]
theorem old_self (w : World) : w.heap.size ≤ w.heap.size ∧ ∀ b o, b < w.heap.size → w.cell? ⟨b, o, none⟩ = w.cell? ⟨b, o, none⟩ := ⟨Nat.le_refl _, fun _ _ _ => rfl⟩
theorem old_drew {w0 wp : World} {n : Nat} (h : n ≤ wp.heap.size ∧ ∀ b o, b < n → wp.cell? ⟨b, o, none⟩ = w0.cell? ⟨b, o, none⟩) : n ≤ wp.drew.heap.size ∧ ∀ b o, b < n → wp.drew.cell? ⟨b, o, none⟩ = w0.cell? ⟨b, o, none⟩ := h
theorem alloc_new_drew (w : World) (o : Obj) : (w.alloc o).drew.heap[w.heap.size]? = some o := alloc_new w o
theorem keepBlk {wp wa : World} {k : Nat} {x : Obj} (hb : Below wp.heap.size wp wa) (h : wp.heap[k]? = some x) : wa.heap[k]? = some x :=
  (hb.block k (Array.getElem?_eq_some_iff.1 h).1).trans h

/-- a block of three cells, as a store meets it -/
theorem three {w : World} {n : Nat} {x y z : Value} {ty : TypeId} (h : w.heap[n]? = some (.cells #[x, y, z] ty (0, 0))) :
    (w.cell? ⟨n, 0, none⟩ = some x ∧ w.cell? ⟨n, 1, none⟩ = some y ∧ w.cell? ⟨n, 2, none⟩ = some z) ∧ (w.frozen? ⟨n, 0, none⟩ = false ∧ w.frozen? ⟨n, 1, none⟩ = false ∧ w.frozen? ⟨n, 2, none⟩ = false) ∧ n < w.heap.size := by
  obtain ⟨f1, f2, f3, _⟩ := copyF h (Below.refl w.heap.size w) (Array.getElem?_eq_some_iff.1 h).1
  exact ⟨⟨f1 0 (by simp), f1 1 (by simp), f1 2 (by simp)⟩, ⟨f2 0, f2 1, f2 2⟩, f3⟩
theorem set_heap' {w : World} {b i : Nat} {cs : Array Value} {t : TypeId} (u : Value) (h : w.heap[b]? = some (.cells cs t (0, 0))) : (w.setCell ⟨b, i, none⟩ u).heap[b]? = some (.cells (cs.setIfInBounds i u) t (0, 0)) := TyD.set_heap u h
theorem set_block {w : World} {p i k : Nat} {v : Value} (h : k ≠ p) : (w.setCell ⟨p, i, none⟩ v).heap[k]? = w.heap[k]? := Below.heap_setCell w ⟨p, i, none⟩ v k h
theorem set3 {w : World} {n : Nat} {x y z : Value} {ty : TypeId} (a b c : Value) (h : w.heap[n]? = some (.cells #[x, y, z] ty (0, 0))) : (((w.setCell ⟨n, 0, none⟩ a).setCell ⟨n, 1, none⟩ b).setCell ⟨n, 2, none⟩ c).heap[n]? = some (.cells #[a, b, c] ty (0, 0)) := by
  have := set_heap' c (i := 2) (set_heap' b (i := 1) (set_heap' a (i := 0) h))
  simpa using this
theorem below_go {n : Nat} {w0 wp wa : World} (h : Below n w0 wp) (hb : Below wp.heap.size wp wa) (hs : n ≤ wp.heap.size) : Below n w0 wa := h.trans (hb.mono hs)
theorem below_size {n : Nat} {w0 wa : World} (hs : n ≤ w0.heap.size) (h : Below n w0 wa) : n ≤ wa.heap.size := Nat.le_trans hs h.size
theorem hE_dec (x0 x1 x2 y0 y1 y2 : Int) : ((x0 == y0) && ((x1 == y1) && (x2 == y2))) = decide ((⟨x0, x1, x2⟩ : HasE) = ⟨y0, y1, y2⟩) := by
  rw [Bool.eq_iff_iff]
  simp [hase_eq]

set_option maxRecDepth 100000 in
set_option maxHeartbeats 8000000 in
theorem mayEnd_core (nt nr nf nb : Int) (x : Ex) (y : HasE) (w : World) (h1 : 0 ≤ y.a ∧ y.a ≤ 6) (h2 : 0 ≤ y.to ∧ y.to ≤ 6) (h3 : 0 ≤ y.els ∧ y.els ≤ 6)
    (HC : Hid (∀ wx, Below w.heap.size w wx → Calls Tryd.prog 103 #[.int .u8 x.kind] wx (ValR (hasEV y) wx))) :
    Calls Tryd.prog 89 #[limV nt nr nf nb, exV x] w (BoolR (decide (y ≠ hasE0) && decide ((⟨toldV (limL nt nr nf nb) y.a x.a, toldV (limL nt nr nf nb) y.to x.to, toldV (limL nt nr nf nb) y.els x.els⟩ : HasE) = y)) w) := by
  have hb0 : Below w.heap.size w ((w.alloc (.cells #[.int .i64 1, .int .i64 0, .int .i64 nt, .int .i64 nr, .int .i64 nf, .int .i64 nb, .int .i64 8] 131)).alloc (.cells #[.int .u8 x.kind, .int .i64 x.a, .int .i64 x.to, .int .i64 x.els] 28)) := (alloc_below _ _).alloc (by simp) _
  have HC1 := hid (HC.out _ hb0)
  have HT1 := hid (fun wx => told_calls nt nr nf nb y.a x.a h1.1 h1.2 wx)
  have HT2 := hid (fun wx => told_calls nt nr nf nb y.to x.to h2.1 h2.2 wx)
  have HT3 := hid (fun wx => told_calls nt nr nf nb y.els x.els h3.1 h3.2 wx)
  generalize toldV (limL nt nr nf nb) y.a x.a = z1 at *
  generalize toldV (limL nt nr nf nb) y.to x.to = z2 at *
  generalize toldV (limL nt nr nf nb) y.els x.els = z3 at *
  clear HC h1 h2 h3
  have HB0 := hid hb0
  obtain ⟨xk, xa, xt, xe⟩ := x
  obtain ⟨ya, yt, ye⟩ := y
  simp only [hasEV, limV] at *
  clear hb0
  generalize hans : (decide ((⟨ya, yt, ye⟩ : HasE) ≠ hasE0) && decide ((⟨z1, z2, z3⟩ : HasE) = ⟨ya, yt, ye⟩)) = ans
  have HANS : Hid (ans = (!decide ((⟨ya, yt, ye⟩ : HasE) = ⟨0, 0, 0⟩) && decide ((⟨z1, z2, z3⟩ : HasE) = ⟨ya, yt, ye⟩))) := by
    show _ = _
    rw [← hans, ← decide_not]; rfl
  clear hans
  go_enter Tryd.func89, Tryd.ntmps89
  go_wp2_with fail
  refine HC1.out.mono ?_
  rintro e w1 ⟨rfl, hb1⟩
  obtain ⟨f1, _, s1, k1⟩ := copyF (alloc_old (alloc_new _ _) _) hb1 (by simp only [World.size_alloc]; omega)
  obtain ⟨f2, _, s2, k2⟩ := copyF (alloc_new _ _) hb1 (by simp only [World.size_alloc]; omega)
  simp only [World.size_alloc] at f2 s2 k2
  have HBE := hid (HB0.out.trans (hb1.mono HB0.out.size))
  clear HC1 hb1 HB0
  have HK1 := hid k1
  have HK2 := hid k2
  clear f1 f2 k1 k2
  go_upto_region 2 with fail
  obtain ⟨w2, hw2⟩ : ∃ w2 : World, w2 = w1.alloc (.cells #[.int .u8 ya, .int .u8 yt, .int .u8 ye] 147) := ⟨_, rfl⟩
  rw [← hw2]
  have HB2 : Hid (Below w.heap.size w w2) := by show Below _ _ _; rw [hw2]; exact HBE.out.alloc HBE.out.size _
  have HL1 : Hid (w2.heap[w.heap.size]? = some (.cells #[.int .i64 1, .int .i64 0, .int .i64 nt, .int .i64 nr, .int .i64 nf, .int .i64 nb, .int .i64 8] 131 (0, 0))) := by show _ = _; rw [hw2]; exact alloc_old HK1.out _
  have HL2 : Hid (w2.heap[w.heap.size + 1]? = some (.cells #[.int .u8 xk, .int .i64 xa, .int .i64 xt, .int .i64 xe] 28 (0, 0))) := by show _ = _; rw [hw2]; exact alloc_old HK2.out _
  have HL3 : Hid (w2.heap[w1.heap.size]? = some (.cells #[.int .u8 ya, .int .u8 yt, .int .u8 ye] 147 (0, 0))) := by show _ = _; rw [hw2]; exact alloc_new _ _
  clear hw2 HK1 HK2 HBE s1 s2
  generalize hbs : w.heap.size = bs at *
  have HBS := hid hbs
  clear hbs
  generalize w1.heap.size = bw at *
  obtain ⟨f1, _, s1, _⟩ := copyF HL1.out (Below.refl w2.heap.size w2) (Array.getElem?_eq_some_iff.1 HL1.out).1
  obtain ⟨f2, _, s2, _⟩ := copyF HL2.out (Below.refl w2.heap.size w2) (Array.getElem?_eq_some_iff.1 HL2.out).1
  obtain ⟨f3, _, s3, _⟩ := copyF HL3.out (Below.refl w2.heap.size w2) (Array.getElem?_eq_some_iff.1 HL3.out).1
  have a0 := f1 0 (by simp); have a1 := f1 1 (by simp); have a2 := f1 2 (by simp); have a3 := f1 3 (by simp); have a4 := f1 4 (by simp); have a5 := f1 5 (by simp); have a6 := f1 6 (by simp)
  have b0 := f2 0 (by simp); have b1 := f2 1 (by simp); have b2 := f2 2 (by simp); have b3 := f2 3 (by simp)
  have c0 := f3 0 (by simp); have c1 := f3 1 (by simp); have c2 := f3 2 (by simp)
  simp only [List.getElem_toArray, List.getElem_cons_succ, List.getElem_cons_zero] at a0 a1 a2 a3 a4 a5 a6 b0 b1 b2 b3 c0 c1 c2
  clear f1 f2 f3
  go_cut [6] (fun p wc => ∃ n6 : Nat, p = .pointer (some ⟨n6, 0, none⟩) ∧ wc.heap[n6]? = some (.cells #[.int .u8 z1, .int .u8 z2, .int .u8 z3] 147 (0, 0)) ∧ wc.heap[bw]? = some (.cells #[.int .u8 ya, .int .u8 yt, .int .u8 ye] 147 (0, 0)) ∧ Below bs w wc)
  case first =>
    have HOS := hid (old_start w2)
    generalize hn2 : w2.heap.size = n2 at *
    have HN2 := hid hn2
    clear hn2
    have hsz3 : n2 ≤ w2.heap.size := Nat.le_of_eq HN2.out.symm
    have HOS2 : Hid (n2 ≤ w2.heap.size ∧ ∀ b o, b < n2 → w2.cell? ⟨b, o, none⟩ = w2.cell? ⟨b, o, none⟩) := ⟨hsz3, fun _ _ _ => rfl⟩
    have HBW : Hid (bw < n2) := s3
    have HBB : Hid (∀ wx : World, Below n2 w2 wx → Below bs w wx) := fun wx hx => HB2.out.trans (hx.mono (Nat.le_of_lt s1))
    have hsz2 : n2 ≤ w2.drew.heap.size := by rw [← HN2.out]; exact Nat.le_refl _
    go_region_held3 (fun w' => n2 ≤ w'.heap.size ∧ ∀ b o, b < n2 → w'.cell? ⟨b, o, none⟩ = w2.cell? ⟨b, o, none⟩)
      (first | with_reducible exact HOS.out | with_reducible exact old_drew (old_alloc HOS2.out) | with_reducible exact old_alloc (by assumption) | with_reducible exact old_call (by assumption) (by assumption) | with_reducible exact old_alloc (old_call hb5 (old_call hb4 (old_call hb3 HOS.out))) | with_reducible exact old_set hn6 (old_set hn6 (old_set hn6 (by assumption))))
      (first | (go_at_call 104; (with_reducible refine (HT1.out _).mono ?_); rintro e w3 ⟨rfl, hb3⟩; (first | (with_reducible (have B3 := below_go (Below.refl n2 w2).drew hb3 hsz2)) | (with_reducible (have B3 := below_go ((Below.refl n2 w2).alloc hsz3 _).drew hb3 (Nat.le_trans hsz3 (alloc_below _ _).size)))); have s3 := below_size hsz3 B3) | (go_at_call 104; (with_reducible refine (HT2.out _).mono ?_); rintro e w4 ⟨rfl, hb4⟩; (first | (with_reducible (have B4 := below_go B3 hb4 s3)) | (with_reducible (have B4 := below_go (B3.alloc s3 _) hb4 (Nat.le_trans s3 (alloc_below _ _).size)))); have s4 := below_size hsz3 B4) | (go_at_call 104; (with_reducible refine (HT3.out _).mono ?_); rintro e w5 ⟨rfl, hb5⟩; (first | (with_reducible (have B5 := below_go B4 hb5 s4)) | (with_reducible (have B5 := below_go (B4.alloc s4 _) hb5 (Nat.le_trans s4 (alloc_below _ _).size)))); have s5 := below_size hsz3 B5; (first | (with_reducible (have hz := keepBlk hb5 (alloc_new _ _); have hn6 := Nat.le_trans (Nat.le_trans hsz2 hb3.size) hb4.size; obtain ⟨⟨e0, e1, e2⟩, ⟨g0, g1, g2⟩, g3⟩ := three hz)) | (with_reducible (have hz := keepBlk hb5 (keepBlk hb4 (alloc_new _ _)); have hn6 := Nat.le_trans hsz2 hb3.size; obtain ⟨⟨e0, e1, e2⟩, ⟨g0, g1, g2⟩, g3⟩ := three hz)) | (with_reducible (have hz := keepBlk hb5 (keepBlk hb4 (keepBlk hb3 (alloc_new_drew _ _))); have hn6 := hsz3; obtain ⟨⟨e0, e1, e2⟩, ⟨g0, g1, g2⟩, g3⟩ := three hz)) | skip)))
    all_goals
      go_wp2_with fail
      go_meet
      case rel =>
        first
        | (refine ⟨_, rfl, set3 _ _ _ hz, ?_, ?_⟩
           · exact (((B5.setCell (p := ⟨_, 0, none⟩) hn6 _).setCell (p := ⟨_, 1, none⟩) hn6 _).setCell (p := ⟨_, 2, none⟩) hn6 _).block bw HBW.out |>.trans HL3.out
           · exact HBB.out _ (((B5.setCell (p := ⟨_, 0, none⟩) hn6 _).setCell (p := ⟨_, 1, none⟩) hn6 _).setCell (p := ⟨_, 2, none⟩) hn6 _))
        | (refine ⟨_, rfl, alloc_new w5 _, ?_, ?_⟩
           · exact (B5.alloc s5 _).block bw HBW.out |>.trans HL3.out
           · exact HBB.out _ (B5.alloc s5 _))
  case rest =>
    clear HT1 HT2 HT3 HL1 HL2 HL3 HB2 a0 a1 a2 a3 a4 a5 a6 b0 b1 b2 b3 c0 c1 c2 s1 s2 s3
    obtain ⟨n6, rfl, k6, kb, hbF⟩ := hcut
    obtain ⟨⟨d0, d1, d2⟩, _, e3⟩ := three k6
    obtain ⟨⟨f0, f1, f2⟩, _, f3⟩ := three kb
    clear k6 kb
    have hq1 := fun w => neq_hE ya yt ye 0 0 0 w
    have hq2 := fun w => eql_hE z1 z2 z3 ya yt ye w
    simp only [hE_dec] at hq1 hq2
    cases hd1 : decide ((⟨ya, yt, ye⟩ : HasE) = ⟨0, 0, 0⟩) with
    | true =>
      rw [hd1] at hq1
      rw [hd1] at HANS
      clear hd1
      go_wp2
      go_ret
      exact ⟨by rw [HANS.out]; rfl, by rw [HBS.out]; exact hbF⟩
    | false =>
      rw [hd1] at hq1
      rw [hd1] at HANS
      clear hd1
      generalize decide ((⟨z1, z2, z3⟩ : HasE) = ⟨ya, yt, ye⟩) = bb at *
      go_wp2
      go_ret
      exact ⟨by rw [HANS.out]; simp, by rw [HBS.out]; exact hbF⟩
end Go.Proofs.YtimnjkdhcnhkoaaDoor.ShF
