/- Walks over shape.mayFunc and what it calls. -/
import Derived.Test.YtimnjkdhcnhkoaaDoorZRgZToRgY
import Derived.Test.YtimnjkdhcnhkoaaDoorZShG
namespace Go.Proofs.YtimnjkdhcnhkoaaDoor.ShH
open RgZ
open Go.RowKit Go.Lib SetP IntO TyM TyP TyB TyC ShM ShP ShA ShB ShC ShE ShQ ShF ShG

theorem has_small : ∀ k : Fin 23, (0 ≤ (hasOf (k.val : Int)).typ ∧ (hasOf (k.val : Int)).typ ≤ 6) ∧ (0 ≤ (hasOf (k.val : Int)).a ∧ (hasOf (k.val : Int)).a ≤ 6) ∧ (0 ≤ (hasOf (k.val : Int)).b ∧ (hasOf (k.val : Int)).b ≤ 6) ∧ (0 ≤ (hasOf (k.val : Int)).n ∧ (hasOf (k.val : Int)).n ≤ 6) ∧ (0 ≤ (hasOf (k.val : Int)).per ∧ (hasOf (k.val : Int)).per ≤ 1) := by decide
theorem may_calls (nt nr nf nb : Int) (x : Ix) (va vf : Value) (w : World) (ht : Tab w) (h0 : 0 ≤ x.op ∧ x.op ≤ 255) (ha : IntsAt w va x.args) (hf : IntsAt w vf x.frm) :
    Calls Tryd.prog 92 #[limV nt nr nf nb, ixV x va vf] w (BoolR (mayI (limL nt nr nf nb) x) w) := by
  have hs : (0 ≤ (hasOf x.op).typ ∧ (hasOf x.op).typ ≤ 6) ∧ (0 ≤ (hasOf x.op).a ∧ (hasOf x.op).a ≤ 6) ∧ (0 ≤ (hasOf x.op).b ∧ (hasOf x.op).b ≤ 6) ∧ (0 ≤ (hasOf x.op).n ∧ (hasOf x.op).n ≤ 6) ∧ (0 ≤ (hasOf x.op).per ∧ (hasOf x.op).per ≤ 1) := by
    rcases op_cases h0.1 with ⟨k, hk⟩ | h
    · rw [hk]; exact has_small k
    · rw [hasOf_over h]; decide
  exact may_core nt nr nf nb x (hasOf x.op) va vf w ha hf hs.1 hs.2.1 hs.2.2.1 hs.2.2.2.1 hs.2.2.2.2 (fun wx hb => row_calls x.op h0.1 h0.2 wx (ht.on hb))
theorem mayEnd_calls (nt nr nf nb : Int) (x : Ex) (w : World) (ht : Tab w) (h0 : 0 ≤ x.kind ∧ x.kind ≤ 255) :
    Calls Tryd.prog 89 #[limV nt nr nf nb, exV x] w (BoolR (mayE (limL nt nr nf nb) x) w) := by
  have hs : (0 ≤ (hasEOf x.kind).a ∧ (hasEOf x.kind).a ≤ 6) ∧ (0 ≤ (hasEOf x.kind).to ∧ (hasEOf x.kind).to ≤ 6) ∧ (0 ≤ (hasEOf x.kind).els ∧ (hasEOf x.kind).els ≤ 6) := by
    by_cases h : x.kind < 4
    · have : x.kind = 0 ∨ x.kind = 1 ∨ x.kind = 2 ∨ x.kind = 3 := by omega
      rcases this with e | e | e | e <;> rw [e] <;> decide
    · rw [hasEOf_over (by omega)]; decide
  exact mayEnd_core nt nr nf nb x (hasEOf x.kind) w hs.1 hs.2.1 hs.2.2 (fun wx hb => rowE_calls x.kind h0.1 h0.2 wx (ht.on hb))

/-- the limits in a block -/
def LimAt (cb : Nat) (nt nr nf nb : Int) (w : World) : Prop := w.heap[cb]? = some (.cells #[.int .i64 1, .int .i64 0, .int .i64 nt, .int .i64 nr, .int .i64 nf, .int .i64 nb, .int .i64 8] 131 (0, 0))
theorem LimAt.lt {cb : Nat} {nt nr nf nb : Int} {w : World} (h : LimAt cb nt nr nf nb w) : cb < w.heap.size := (Array.getElem?_eq_some_iff.1 h).1
theorem LimAt.below {cb : Nat} {nt nr nf nb : Int} {w w' : World} (h : LimAt cb nt nr nf nb w) (hb : Below w.heap.size w w') : LimAt cb nt nr nf nb w' := (hb.block cb h.lt).trans h

set_option maxRecDepth 100000 in
theorem c11_calls (cb : Nat) (nt nr nf nb : Int) (x : Ix) (va vf : Value) (w : World) (hl : LimAt cb nt nr nf nb w) (ht : Tab w) (h0 : 0 ≤ x.op ∧ x.op ≤ 255) (ha : IntsAt w va x.args) (hf : IntsAt w vf x.frm) :
    Calls Tryd.prog 91 #[ixV x va vf, .pointer (some ⟨cb, 0, none⟩)] w (BoolR (!mayI (limL nt nr nf nb) x) w) := by
  have hb0 := alloc_below w (.cells #[.int .u8 x.op, .int .i64 x.typ, .int .i64 x.a, .int .i64 x.b, .int .i64 x.n, va, vf] 55)
  have HC := hid (may_calls nt nr nf nb x va vf _ (ht.on hb0) h0 (ha.below hb0) (hf.below hb0))
  obtain ⟨⟨a0, a1, a2, a3, a4, a5, a6⟩, _, s1⟩ := seven hl
  obtain ⟨pa, pc, rfl, _⟩ := ints_slice ha
  obtain ⟨fa, fc, rfl, _⟩ := ints_slice hf
  generalize mayI (limL nt nr nf nb) x = bb at *
  clear hl ht h0 ha hf
  obtain ⟨op, ty, a, b, n, xl, xm⟩ := x
  simp only [limV] at *
  cases bb <;>
  · go_enter Tryd.func91, Tryd.ntmps91
    go_wp2_with fail
    refine HC.out.mono ?_
    rintro e w1 ⟨rfl, hb1⟩
    have hbe := hb0.trans (hb1.mono hb0.size)
    clear HC hb1
    go_wp2
    go_ret
    exact ⟨rfl, hbe⟩

theorem all_any {L : List Int} {b : Bx} : (!mayE L b.en || b.ins.any fun x => !mayI L x) = !mayBl L b := by
  unfold mayBl
  simp [List.any_eq_not_all_not]
set_option maxRecDepth 100000 in
set_option maxHeartbeats 1000000 in
theorem c1_calls (cb : Nat) (nt nr nf nb : Int) (x : Bx) (vi : Value) (w : World) (hl : LimAt cb nt nr nf nb w) (ht : Tab w) (h0 : (0 ≤ x.en.kind ∧ x.en.kind ≤ 255) ∧ ∀ y ∈ x.ins, 0 ≤ y.op ∧ y.op ≤ 255) (hi : InsAt w vi x.ins) :
    Calls Tryd.prog 88 #[bxV x vi, .pointer (some ⟨cb, 0, none⟩)] w (BoolR (!mayBl (limL nt nr nf nb) x) w) := by
  have hb0 := alloc_below w (.cells #[vi, .int .u8 x.en.kind, .int .i64 x.en.a, .int .i64 x.en.to, .int .i64 x.en.els] 31)
  have HE := hid (mayEnd_calls nt nr nf nb x.en _ (ht.on hb0) h0.1)
  have HC := hid (fun w1 (hb1 : Below w.heap.size w w1) => containsI_calls 91 (enters_of Tryd.func91 (by kernel_rfl) rfl) cb (fun y => !mayI (limL nt nr nf nb) y) vi x.ins w1 (hi.below insStays hb1)
    (fun y hy va vf wx hbx ha hf => c11_calls cb nt nr nf nb y va vf wx ((hl.below hb1).below hbx) ((ht.on hb1).on hbx) (h0.2 y hy) ha hf))
  obtain ⟨⟨a0, a1, a2, a3, a4, a5, a6⟩, _, s1⟩ := seven hl
  obtain ⟨ia, ic, rfl, _⟩ := hi.slice
  rw [← all_any]
  generalize mayE (limL nt nr nf nb) x.en = be at *
  generalize (x.ins.any fun y => !mayI (limL nt nr nf nb) y) = bi at *
  clear hl ht h0 hi
  obtain ⟨xl, xk, xa, xt, xe⟩ := x
  simp only [limV] at *
  generalize xl.length = nl at *
  cases be with
  | false =>
    clear HC
    go_enter Tryd.func88, Tryd.ntmps88
    go_wp2_with fail
    refine HE.out.mono ?_
    rintro e w1 ⟨rfl, hb1⟩
    have hbe := hb0.trans (hb1.mono hb0.size)
    clear HE hb1
    go_wp2
    go_ret
    exact ⟨rfl, hbe⟩
  | true =>
    go_enter Tryd.func88, Tryd.ntmps88
    go_wp2_with fail
    refine HE.out.mono ?_
    rintro e w1 ⟨rfl, hb1⟩
    have hbe := hb0.trans (hb1.mono hb0.size)
    obtain ⟨f1, _, f3, _⟩ := copyF (alloc_new _ _) hb1 (by simp only [World.size_alloc]; omega)
    have c0 := f1 0 (by simp)
    simp only [List.getElem_toArray, List.getElem_cons_zero] at c0
    have HC1 := hid (HC.out w1 hbe)
    clear HE hb1 HC f1
    go_wp2_with fail
    refine HC1.out.mono ?_
    rintro e w2 ⟨rfl, hb2⟩
    have hbe2 := hbe.trans (hb2.mono hbe.size)
    clear HC1 hb2
    go_wp2
    go_ret
    exact ⟨rfl, hbe2⟩

theorem size2 (w : World) (a b : Obj) : ((w.alloc a).alloc b).heap.size = w.heap.size + 2 := by simp only [World.size_alloc]
/-- may a function be? -/
def kindAt (t : List Ty) (s : Int) : Int := ((t[s.toNat]?).getD default).kind
def mayF (t : List Ty) (nf : Nat) (f : Fx) : Bool :=
  if ¬ (0 ≤ f.sig ∧ f.sig < t.length) then false
  else if kindAt t f.sig ≠ 3 then false
  else if f.blocks.length < 1 ∨ 16 < f.blocks.length ∨ 128 < manyB f.blocks then false
  else f.blocks.all (mayBl (limL t.length ((parOf t f.sig + manyB f.blocks : Nat) : Int) nf f.blocks.length))
theorem any_all {L : List Int} {l : List Bx} : (!l.any fun b => !mayBl L b) = l.all (mayBl L) := by
  simp [List.any_eq_not_all_not]
theorem low_one {m n : Int} : lowB m [n] = decide (0 ≤ n ∧ n < m) := by simp [lowB]

set_option maxRecDepth 100000 in
set_option maxHeartbeats 16000000 in
theorem mayFunc_calls (t : List Ty) (nf : Nat) (f : Fx) (vt vb : Value) (fa : Option Addr) (fcap : Nat) (w : World) (ht : TysAt w vt t) (hb : BlksAt w vb f.blocks) (htab : Tab w) (hsm : manyB f.blocks ≤ 20000) (hpar : ∀ x ∈ t, x.parts.length ≤ 20000)
    (hok : ∀ b ∈ f.blocks, (0 ≤ b.en.kind ∧ b.en.kind ≤ 255) ∧ ∀ y ∈ b.ins, 0 ≤ y.op ∧ y.op ≤ 255) :
    Calls Tryd.prog 79 #[.agg #[vt, .slice fa nf fcap], fxV f vb] w (BoolR (mayF t nf f) w) := by
  have hb0 : Below w.heap.size w (((w.alloc (.cells #[vt, .slice fa nf fcap] 25)).alloc (.cells #[.int .i64 f.sig, vb] 34)).alloc (.cells #[.int .i64 f.sig] 3)) := ((alloc_below _ _).alloc (by simp) _).alloc (by simp only [World.size_alloc]; omega) _
  have HB := hid (ShE.below_calls t.length (.slice (some ⟨w.heap.size + 2, 0, none⟩) 1 1) [f.sig] (((w.alloc (.cells #[vt, .slice fa nf fcap] 25)).alloc (.cells #[.int .i64 f.sig, vb] 34)).alloc (.cells #[.int .i64 f.sig] 3)) (ints_one (cell_new _ _ _ _ (size2 _ _ _)) (size_new _ _ _ (size2 _ _ _))))
  rw [low_one] at HB
  have HI := hid (fun wx (hx : Below w.heap.size w wx) => instructions_calls vb f.blocks wx (hb.below blkStays hx) (by omega))
  have HT := hid ht
  have HBL := hid hb
  have HTAB := hid htab
  have HOK := hid hok
  obtain ⟨ta, tc, rfl⟩ := ht.slice
  obtain ⟨ba, bc, rfl, hbl⟩ := hb.slice
  have htl : t.length ≤ 9223372036854775807 := by obtain ⟨_, _, _, h, _⟩ := ht; exact h
  have HD : Hid (mayF t nf f = if ¬ (0 ≤ f.sig ∧ f.sig < t.length) then false
    else if kindAt t f.sig ≠ 3 then false
    else if f.blocks.length < 1 ∨ 16 < f.blocks.length ∨ 128 < manyB f.blocks then false
    else f.blocks.all (mayBl (limL t.length ((parOf t f.sig + manyB f.blocks : Nat) : Int) nf f.blocks.length))) := rfl
  have HB0 := hid hb0
  clear ht hb htab hok hb0
  by_cases hs : 0 ≤ f.sig ∧ f.sig < t.length
  rotate_left
  · rw [HD.out, if_pos hs]
    rw [decide_eq_false hs] at HB
    clear HD HI HT HBL HTAB HOK hpar
    obtain ⟨sg, bl⟩ := f
    simp only at *
    generalize t.length = n1 at *
    generalize bl.length = n3 at *
    go_enter Tryd.func79, Tryd.ntmps79
    go_wp2_with fail
    refine HB.out.mono ?_
    rintro e w1 ⟨rfl, hb1⟩
    have hbe := HB0.out.trans (hb1.mono HB0.out.size)
    clear HB hb1
    go_wp2
    go_ret
    exact ⟨rfl, hbe⟩
  rw [decide_eq_true hs] at HB
  obtain ⟨k, hk⟩ : ∃ k : Nat, f.sig = k := ⟨f.sig.toNat, by omega⟩
  have hkt : k < t.length := by omega
  have hkind : kindAt t f.sig = t[k].kind := by unfold kindAt; rw [hk, Int.toNat_natCast, List.getElem?_eq_getElem hkt]; rfl
  rw [if_neg (fun h => h hs), hkind] at HD
  obtain ⟨tb, off, rfl, hlt, pv, c0, c1, c2, c3, hp⟩ := HT.out.at k hkt
  have hsm2 : parOf t f.sig + manyB f.blocks ≤ 1000000 := by
    rw [hk, parOf_at hkt]
    have := hpar _ (List.getElem_mem hkt)
    omega
  have HR := hid (fun wx (hx : Below w.heap.size w wx) => regs_calls t f (.slice (some ⟨tb, off, none⟩) t.length tc) (.slice fa nf fcap) (.slice ba f.blocks.length bc) wx (HT.out.below hx) ⟨_, _, _, rfl⟩ hs.1 hs.2 (HBL.out.below blkStays hx) hsm2)
  have HCF := hid (fun (cb : Nat) (wx : World) (hx : Below w.heap.size w wx) (hl : LimAt cb t.length ((parOf t f.sig + manyB f.blocks : Nat) : Int) nf f.blocks.length wx) => containsB_calls 88 (enters_of Tryd.func88 (by kernel_rfl) rfl) cb (fun b => !mayBl (limL t.length ((parOf t f.sig + manyB f.blocks : Nat) : Int) nf f.blocks.length) b) (.slice ba f.blocks.length bc) f.blocks wx (HBL.out.below blkStays hx)
    (fun b hb vi wy hy hi => c1_calls cb _ _ _ _ b vi wy (hl.below hy) ((HTAB.out.on hx).on hy) (HOK.out b hb) hi))
  rw [← any_all] at HD
  generalize mayF t nf f = ans at *
  generalize (f.blocks.any fun b => !mayBl (limL t.length ((parOf t f.sig + manyB f.blocks : Nat) : Int) nf f.blocks.length) b) = anyb at *
  generalize parOf t f.sig + manyB f.blocks = nr at *
  generalize manyB f.blocks = nm at *
  have HKT : Hid (k < t.length) := hkt
  clear HT HBL HTAB HOK hpar hsm2 hp hkind hs c1 c2 c3
  generalize t[k].kind = kk at *
  clear hkt
  obtain ⟨sg, bl⟩ := f
  simp only at *
  subst hk
  have hkl : (k : Int) < t.length := by have := HKT.out; omega
  have hk0 : (0 : Int) ≤ k := by omega
  clear HKT
  generalize t.length = n1 at *
  generalize bl.length = n3 at *
  have hcw := c0
  by_cases hkk : kk = 3
  rotate_left
  · rw [if_pos hkk] at HD
    have e3 : (kk != 3) = true := by simpa using hkk
    clear HI HR HCF hkk
    go_enter Tryd.func79, Tryd.ntmps79
    go_wp2_with fail
    refine HB.out.mono ?_
    rintro e w1 ⟨rfl, hb1⟩
    obtain ⟨f1, _, s1, _⟩ := copyF (alloc_old (alloc_old (alloc_new _ _) _) _) hb1 (by simp only [World.size_alloc]; omega)
    obtain ⟨f2, _, s2, _⟩ := copyF (alloc_old (alloc_new _ _) _) hb1 (by simp only [World.size_alloc]; omega)
    have hbe := HB0.out.trans (hb1.mono HB0.out.size)
    have p0 := f1 0 (by simp); have q0 := f2 0 (by simp)
    simp only [List.getElem_toArray, List.getElem_cons_zero, World.size_alloc] at p0 q0
    have d0 := (hbe.cell (p := ⟨tb, off + k * 4, none⟩) hlt).trans c0
    clear HB hb1 f1 f2
    go_wp2
    go_ret
    exact ⟨by rw [HD.out]; rfl, hbe⟩
  subst hkk
  rw [if_neg (fun h => h rfl)] at HD
  by_cases h13 : n3 < 1 ∨ 16 < n3
  · have hor : n3 < 1 ∨ 16 < n3 ∨ 128 < nm := by omega
    rw [if_pos hor] at HD
    clear HI HR HCF hor
    by_cases hn1 : (n3 : Int) < 1
    all_goals
      have hn16 : (n3 : Int) < 1 ∨ (16 : Int) < n3 := by omega
      go_enter Tryd.func79, Tryd.ntmps79
      go_wp2_with fail
      refine HB.out.mono ?_
      rintro e w1 ⟨rfl, hb1⟩
      obtain ⟨f1, _, s1, _⟩ := copyF (alloc_old (alloc_old (alloc_new _ _) _) _) hb1 (by simp only [World.size_alloc]; omega)
      obtain ⟨f2, _, s2, _⟩ := copyF (alloc_old (alloc_new _ _) _) hb1 (by simp only [World.size_alloc]; omega)
      have hbe := HB0.out.trans (hb1.mono HB0.out.size)
      have p0 := f1 0 (by simp); have q0 := f2 0 (by simp); have q1 := f2 1 (by simp)
      simp only [List.getElem_toArray, List.getElem_cons_succ, List.getElem_cons_zero, World.size_alloc] at p0 q0 q1
      have d0 := (hbe.cell (p := ⟨tb, off + k * 4, none⟩) hlt).trans c0
      clear HB hb1 f1 f2 h13
      have h16 : ¬ (n3 : Int) < 1 → (16 : Int) < n3 := by omega
      first
      | (go_wp2
         go_ret
         exact ⟨by rw [HD.out]; rfl, hbe⟩)
      | (have h17 := h16 hn1
         clear h16 hn16
         go_wp2
         go_ret
         exact ⟨by rw [HD.out]; rfl, hbe⟩)
  have g1 : ¬ (n3 : Int) < 1 := by omega
  have g16 : ¬ (16 : Int) < n3 := by omega
  by_cases hm : 128 < nm
  · have hor : n3 < 1 ∨ 16 < n3 ∨ 128 < nm := by omega
    rw [if_pos hor] at HD
    have gm : (128 : Int) < nm := by omega
    clear HR HCF hor h13 hm
    go_enter Tryd.func79, Tryd.ntmps79
    go_wp2_with fail
    refine HB.out.mono ?_
    rintro e w1 ⟨rfl, hb1⟩
    obtain ⟨f1, _, s1, _⟩ := copyF (alloc_old (alloc_old (alloc_new _ _) _) _) hb1 (by simp only [World.size_alloc]; omega)
    obtain ⟨f2, _, s2, _⟩ := copyF (alloc_old (alloc_new _ _) _) hb1 (by simp only [World.size_alloc]; omega)
    have hbe := HB0.out.trans (hb1.mono HB0.out.size)
    have p0 := f1 0 (by simp); have q0 := f2 0 (by simp); have q1 := f2 1 (by simp)
    simp only [List.getElem_toArray, List.getElem_cons_succ, List.getElem_cons_zero, World.size_alloc] at p0 q0 q1
    have d0 := (hbe.cell (p := ⟨tb, off + k * 4, none⟩) hlt).trans c0
    have HI1 := hid (HI.out w1 hbe)
    clear HB hb1 f1 f2 HI
    go_wp2_with fail
    refine HI1.out.mono ?_
    rintro e w2 ⟨rfl, hb2⟩
    have hbe2 := hbe.trans (hb2.mono hbe.size)
    clear HI1 hb2
    go_wp2
    go_ret
    exact ⟨by rw [HD.out]; rfl, hbe2⟩
  have hor : ¬ (n3 < 1 ∨ 16 < n3 ∨ 128 < nm) := by omega
  rw [if_neg hor] at HD
  have gm : ¬ (128 : Int) < nm := by omega
  clear hor h13 hm
  go_enter Tryd.func79, Tryd.ntmps79
  go_wp2_with fail
  refine HB.out.mono ?_
  rintro e w1 ⟨rfl, hb1⟩
  obtain ⟨f1, _, s1, k1⟩ := copyF (alloc_old (alloc_old (alloc_new _ _) _) _) hb1 (by simp only [World.size_alloc]; omega)
  obtain ⟨f2, _, s2, k2⟩ := copyF (alloc_old (alloc_new _ _) _) hb1 (by simp only [World.size_alloc]; omega)
  have hbe := HB0.out.trans (hb1.mono HB0.out.size)
  have p0 := f1 0 (by simp); have q0 := f2 0 (by simp); have q1 := f2 1 (by simp)
  simp only [List.getElem_toArray, List.getElem_cons_succ, List.getElem_cons_zero, World.size_alloc] at p0 q0 q1 k1 k2
  have HK1 := hid k1
  have HK2 := hid k2
  have d0 := (hbe.cell (p := ⟨tb, off + k * 4, none⟩) hlt).trans c0
  have HI1 := hid (HI.out w1 hbe)
  clear HB hb1 f1 f2 HI k1 k2
  go_wp2_with fail
  all_goals (try (exfalso; omega))
  refine HI1.out.mono ?_
  rintro e w2 ⟨rfl, hb2⟩
  have HL1 := hid (keepBlk hb2 HK1.out)
  have HL2 := hid (keepBlk hb2 HK2.out)
  have hbe2 := hbe.trans (hb2.mono hbe.size)
  have HB2 := hid hbe2
  clear HI1 hb2 HK1 HK2 p0 q0 q1 s1 s2 hbe hbe2 d0 hcw c0
  obtain ⟨r1, _, s1, _⟩ := copyF HL1.out (Below.refl w2.heap.size w2) (Array.getElem?_eq_some_iff.1 HL1.out).1
  obtain ⟨r2, _, s2, _⟩ := copyF HL2.out (Below.refl w2.heap.size w2) (Array.getElem?_eq_some_iff.1 HL2.out).1
  have p0 := r1 0 (by simp); have p1 := r1 1 (by simp); have q0 := r2 0 (by simp); have q1 := r2 1 (by simp)
  simp only [List.getElem_toArray, List.getElem_cons_succ, List.getElem_cons_zero] at p0 p1 q0 q1
  clear r1 r2
  go_upto_region 6 with fail
  all_goals (try (exfalso; omega))
  go_cut [6] (fun p wc => ∃ n6 : Nat, p = .pointer (some ⟨n6, 0, none⟩) ∧ LimAt n6 n1 nr nf n3 wc ∧ Below w2.heap.size w2 wc)
  case first =>
    have HBd : Hid (Below w.heap.size w w2.drew) := HB2.out.drew
    have HBd2 : Hid (∀ o, Below w.heap.size w (w2.alloc o).drew) := fun o => (HB2.out.alloc HB2.out.size o).drew
    have HOS := hid (old_start w2)
    generalize hn2 : w2.heap.size = n2 at *
    have HN2 := hid hn2
    clear hn2
    have hsz3 : n2 ≤ w2.heap.size := Nat.le_of_eq HN2.out.symm
    have HOS2 : Hid (n2 ≤ w2.heap.size ∧ ∀ b o, b < n2 → w2.cell? ⟨b, o, none⟩ = w2.cell? ⟨b, o, none⟩) := ⟨hsz3, fun _ _ _ => rfl⟩
    have hsz2 : n2 ≤ w2.drew.heap.size := by rw [← HN2.out]; exact Nat.le_refl _
    refine wp_region_noPanic ?_
    refine wp_region_held_drew (S := (fun w' => n2 ≤ w'.heap.size ∧ ∀ b o, b < n2 → w'.cell? ⟨b, o, none⟩ = w2.cell? ⟨b, o, none⟩)) (by kernel_rfl) ?_ (fun hHeld => ?_)
    · (try dsimp only)
      (first | with_reducible exact HOS.out | with_reducible exact old_drew (old_alloc HOS2.out) | with_reducible exact old_alloc (by assumption) | with_reducible exact old_call (by assumption) (by assumption) | with_reducible exact old_alloc (old_call hb3 HOS.out) | with_reducible exact old_set hn6 (old_set hn6 (old_set hn6 (old_set hn6 (old_set hn6 (old_set hn6 (old_set hn6 (by assumption))))))))
    refine zH 0 rfl ?_
    refine zH 1 rfl ?_
    refine zH 2 rfl ?_
    refine zH 3 rfl ?_
    refine zH 4 rfl ?_
    refine zH 6 rfl ?_
    refine zH 7 rfl ?_
    refine zH 8 rfl ?_
    refine zH 9 rfl ?_
    try simp only [Act.put, List.setIfInBounds_toArray, List.set_cons_zero, List.set_cons_succ]
    refine wpAnyH_ready (rs := [5, 11]) (by kernel_rfl) (by simp) ?_
    refine AllReadyH.cons (o := ⟨_, _, _, _, _, _⟩) rfl (fun K hK => ?_) ?_
    · go_simp
      (go_at_call 51; (with_reducible refine (HR.out _ HBd.out).mono ?_); rintro e w3 ⟨rfl, hb3⟩; have B3 := below_go (Below.refl n2 w2).drew hb3 hsz2; have s3 := below_size hsz3 B3)
      refine hK.out _ _ ?_ (fun hHeld => ?_)
      · (try dsimp only)
        (first | with_reducible exact HOS.out | with_reducible exact old_drew (old_alloc HOS2.out) | with_reducible exact old_alloc (by assumption) | with_reducible exact old_call (by assumption) (by assumption) | with_reducible exact old_alloc (old_call hb3 HOS.out) | with_reducible exact old_set hn6 (old_set hn6 (old_set hn6 (old_set hn6 (old_set hn6 (old_set hn6 (old_set hn6 (by assumption))))))))
      clear hK K
      refine zH 10 rfl ?_
      try simp only [Act.put, List.setIfInBounds_toArray, List.set_cons_zero, List.set_cons_succ]
      refine wpAnyH_ready (rs := [11]) (by kernel_rfl) (by simp) ?_
      refine AllReadyH.cons (o := ⟨_, _, _, _, _, _⟩) rfl (fun K hK => ?_) ?_
      · go_simp
        refine hK.out _ _ ?_ (fun hHeld => ?_)
        · (try dsimp only)
          (first | with_reducible exact HOS.out | with_reducible exact old_drew (old_alloc HOS2.out) | with_reducible exact old_alloc (by assumption) | with_reducible exact old_call (by assumption) (by assumption) | with_reducible exact old_alloc (old_call hb3 HOS.out) | with_reducible exact old_set hn6 (old_set hn6 (old_set hn6 (old_set hn6 (old_set hn6 (old_set hn6 (old_set hn6 (by assumption))))))))
        clear hK K
        try simp only [Act.put, List.setIfInBounds_toArray, List.set_cons_zero, List.set_cons_succ]
        refine wpAnyH_ready (rs := [12]) (by kernel_rfl) (by simp) ?_
        refine AllReadyH.cons (o := ⟨_, _, _, _, _, _⟩) rfl (fun K hK => ?_) ?_
        · go_simp
          refine hK.out _ _ ?_ (fun hHeld => ?_)
          · (try dsimp only)
            (first | with_reducible exact HOS.out | with_reducible exact old_drew (old_alloc HOS2.out) | with_reducible exact old_alloc (by assumption) | with_reducible exact old_call (by assumption) (by assumption) | with_reducible exact old_alloc (old_call hb3 HOS.out) | with_reducible exact old_set hn6 (old_set hn6 (old_set hn6 (old_set hn6 (old_set hn6 (old_set hn6 (old_set hn6 (by assumption))))))))
          clear hK K
          try simp only [Act.put, List.setIfInBounds_toArray, List.set_cons_zero, List.set_cons_succ]
          refine wpAnyH_done (by kernel_rfl) ?_ _
          refine NoPanic.normal ?_
          go_wp2_with fail
          go_meet
          case rel =>
            refine ⟨_, rfl, ?_, ?_⟩
            · exact alloc_new w3 _
            · exact B3.alloc s3 _
        exact AllReadyH.nil
      exact AllReadyH.nil
    refine AllReadyH.cons (o := ⟨_, _, _, _, _, _⟩) rfl (fun K hK => ?_) ?_
    · go_simp
      refine hK.out _ _ ?_ (fun hHeld => ?_)
      · (try dsimp only)
        (first | with_reducible exact HOS.out | with_reducible exact old_drew (old_alloc HOS2.out) | with_reducible exact old_alloc (by assumption) | with_reducible exact old_call (by assumption) (by assumption) | with_reducible exact old_alloc (old_call hb3 HOS.out) | with_reducible exact old_set hn6 (old_set hn6 (old_set hn6 (old_set hn6 (old_set hn6 (old_set hn6 (old_set hn6 (by assumption))))))))
      clear hK K
      try simp only [Act.put, List.setIfInBounds_toArray, List.set_cons_zero, List.set_cons_succ]
      refine wpAnyH_ready (rs := [5]) (by kernel_rfl) (by simp) ?_
      refine AllReadyH.cons (o := ⟨_, _, _, _, _, _⟩) rfl (fun K hK => ?_) ?_
      · go_simp
        (go_at_call 51; (with_reducible refine (HR.out _ (HBd2.out _)).mono ?_); rintro e w3 ⟨rfl, hb3⟩; have B3 := below_go ((Below.refl n2 w2).alloc hsz3 _).drew hb3 (Nat.le_trans hsz3 (alloc_below _ _).size); have s3 := below_size hsz3 B3; have hz := keepBlk hb3 (alloc_new_drew _ _); have hn6 := hsz3; obtain ⟨⟨e0, e1, e2, e3, e4, e5, e6⟩, ⟨g0, g1, g2, g3, g4, g5, g6⟩, g7⟩ := seven hz)
        refine hK.out _ _ ?_ (fun hHeld => ?_)
        · (try dsimp only)
          (first | with_reducible exact HOS.out | with_reducible exact old_drew (old_alloc HOS2.out) | with_reducible exact old_alloc (by assumption) | with_reducible exact old_call (by assumption) (by assumption) | with_reducible exact old_alloc (old_call hb3 HOS.out) | with_reducible exact old_set hn6 (old_set hn6 (old_set hn6 (old_set hn6 (old_set hn6 (old_set hn6 (old_set hn6 (by assumption))))))))
        clear hK K
        refine zH 10 rfl ?_
        try simp only [Act.put, List.setIfInBounds_toArray, List.set_cons_zero, List.set_cons_succ]
        refine wpAnyH_ready (rs := [12]) (by kernel_rfl) (by simp) ?_
        refine AllReadyH.cons (o := ⟨_, _, _, _, _, _⟩) rfl (fun K hK => ?_) ?_
        · go_simp
          refine hK.out _ _ ?_ (fun hHeld => ?_)
          · (try dsimp only)
            (first | with_reducible exact HOS.out | with_reducible exact old_drew (old_alloc HOS2.out) | with_reducible exact old_alloc (by assumption) | with_reducible exact old_call (by assumption) (by assumption) | with_reducible exact old_alloc (old_call hb3 HOS.out) | with_reducible exact old_set hn6 (old_set hn6 (old_set hn6 (old_set hn6 (old_set hn6 (old_set hn6 (old_set hn6 (by assumption))))))))
          clear hK K
          try simp only [Act.put, List.setIfInBounds_toArray, List.set_cons_zero, List.set_cons_succ]
          refine wpAnyH_done (by kernel_rfl) ?_ _
          refine NoPanic.normal ?_
          go_wp2_with fail
          go_meet
          case rel =>
            refine ⟨_, rfl, ?_, ?_⟩
            · exact set7 _ _ _ _ _ _ _ hz
            · exact below7 _ _ _ _ _ _ _ B3 hn6
        exact AllReadyH.nil
      exact AllReadyH.nil
    exact AllReadyH.nil
  case rest =>
    obtain ⟨n6, rfl, hlim, hbF⟩ := hcut
    have hbW := HB2.out.trans (hbF.mono HB2.out.size)
    have HC := hid (HCF.out n6 wc hbW hlim)
    obtain ⟨r2, _, r3, _⟩ := copyF HL2.out hbF (Array.getElem?_eq_some_iff.1 HL2.out).1
    have z1 := r2 1 (by simp)
    simp only [List.getElem_toArray, List.getElem_cons_succ, List.getElem_cons_zero] at z1
    clear HR HCF HL1 HL2 HB2 hlim hbF p0 p1 q0 q1 s1 s2 r2
    go_wp2_with fail
    refine HC.out.mono ?_
    rintro e w8 ⟨rfl, hb8⟩
    have hbe8 := hbW.trans (hb8.mono hbW.size)
    clear HC hb8
    go_wp2
    go_ret
    exact ⟨by rw [HD.out]; rfl, hbe8⟩
end Go.Proofs.YtimnjkdhcnhkoaaDoor.ShH
