/- Walk over shape.Regs. -/
import Derived.Test.YtaegidmodenomaaDoorShI
namespace Go.Proofs.YtaegidmodenomaaDoor.ShJ
open Go.RowKit Go.Lib SetP IntO TyM TyP TyB TyC ShM ShP ShA ShB ShC ShE ShQ ShF ShG ShH ShI

/-- a function that may be -/
theorem find_zero {p : Px} {f : Int} (h : findP p f = 0) : chkP p = 0 ∧ 0 ≤ f ∧ f < p.funcs.length := by
  unfold findP at h
  by_cases h1 : chkP p = 0
  · rw [if_neg (fun e => e h1)] at h
    by_cases h2 : 0 ≤ f ∧ f < p.funcs.length
    · exact ⟨h1, h2⟩
    · rw [if_neg h2] at h; omega
  · rw [if_pos h1] at h; exact absurd h h1
theorem chk_zero {p : Px} (h : chkP p = 0) : chkT p.types = 0 ∧ 1 ≤ p.funcs.length ∧ p.funcs.length ≤ 8 ∧ ∀ f ∈ p.funcs, mayF p.types p.funcs.length f = true := by
  unfold chkP at h
  by_cases h1 : chkT p.types = 0
  · rw [if_neg (fun e => e h1)] at h
    by_cases h2 : p.funcs.length < 1 ∨ 8 < p.funcs.length
    · rw [if_pos h2] at h; omega
    · rw [if_neg h2] at h
      by_cases h3 : p.funcs.all (mayF p.types p.funcs.length) = true
      · exact ⟨h1, by omega, by omega, List.all_eq_true.1 h3⟩
      · rw [if_neg h3] at h; omega
  · rw [if_pos h1] at h; exact absurd h h1
theorem may_zero {t : List Ty} {nf : Nat} {f : Fx} (h : mayF t nf f = true) : (0 ≤ f.sig ∧ f.sig < t.length) ∧ kindAt t f.sig = 3 ∧ 1 ≤ f.blocks.length ∧ f.blocks.length ≤ 16 ∧ manyB f.blocks ≤ 128 := by
  unfold mayF at h
  by_cases h1 : 0 ≤ f.sig ∧ f.sig < t.length
  · rw [if_neg (fun e => e h1)] at h
    by_cases h2 : kindAt t f.sig = 3
    · rw [if_neg (fun e => e h2)] at h
      by_cases h3 : f.blocks.length < 1 ∨ 16 < f.blocks.length ∨ 128 < manyB f.blocks
      · rw [if_pos h3] at h; cases h
      · exact ⟨h1, h2, by omega, by omega, by omega⟩
    · rw [if_pos h2] at h; cases h
  · rw [if_pos h1] at h; cases h
/-- a program's function, where there is one -/
structure Has1 (p : Px) (f : Int) (k : Nat) (x : Fx) : Prop where
  eq : f = k
  lt : k < p.funcs.length
  at_ : p.funcs[k]? = some x
  sig0 : 0 ≤ x.sig
  sig1 : x.sig < p.types.length
  blocks1 : 1 ≤ x.blocks.length
  blocks : x.blocks.length ≤ 16
  many : manyB x.blocks ≤ 128
theorem has1 {p : Px} {f : Int} (h : findP p f = 0) : ∃ k x, Has1 p f k x := by
  obtain ⟨h1, h2, h3⟩ := find_zero h
  obtain ⟨_, _, _, h4⟩ := chk_zero h1
  have hk : f.toNat < p.funcs.length := by omega
  obtain ⟨⟨a, b⟩, _, c, d, e⟩ := may_zero (h4 _ (List.getElem_mem hk))
  exact ⟨f.toNat, p.funcs[f.toNat], by omega, hk, List.getElem?_eq_getElem hk, a, b, c, d, e⟩
/-- how many registers a function has -/
def cntP (p : Px) (f : Int) : Nat := match p.funcs[f.toNat]? with
  | some x => parOf p.types x.sig + manyB x.blocks
  | none => 0
theorem cnt_at {p : Px} {f : Int} {k : Nat} {x : Fx} (h : Has1 p f k x) : cntP p f = parOf p.types x.sig + manyB x.blocks := by
  unfold cntP
  rw [h.eq, Int.toNat_natCast, h.at_]
theorem par_le {t : List Ty} {s : Int} (hp : ∀ x ∈ t, x.parts.length ≤ 20) (h0 : 0 ≤ s) (h1 : s < t.length) : parOf t s ≤ 20 := by
  have hk : s.toNat < t.length := by omega
  have := parOf_at hk
  rw [Int.toNat_of_nonneg h0] at this
  rw [this]
  exact hp _ (List.getElem_mem hk)
/-- two numbers, and old memory stays -/
def TwoR (n m : Int) (w : World) (e : Ending) (w' : World) : Prop := e = .returned (.tuple #[.int .i64 n, .int .i64 m]) ∧ Below w.heap.size w w'
def ThreeR (n m k : Int) (w : World) (e : Ending) (w' : World) : Prop := e = .returned (.tuple #[.int .i64 n, .int .i64 m, .int .i64 k]) ∧ Below w.heap.size w w'
/-- one of the functions in memory -/
theorem fn_at {w : World} {vf : Value} {p : Px} {f : Int} {k : Nat} {x : Fx} (h : FnsAt w vf p.funcs) (h1 : Has1 p f k x) : ∃ b off cap vb, vf = .slice (some ⟨b, off, none⟩) p.funcs.length cap ∧ b < w.heap.size ∧ w.cell? ⟨b, off + k * 2, none⟩ = some (.int .i64 x.sig) ∧ w.cell? ⟨b, off + k * 2 + 1, none⟩ = some vb ∧ BlksAt w vb x.blocks := by
  obtain ⟨ao, cap, rfl, _⟩ := h.slice
  obtain ⟨b, off, rfl, hb, vb, c0, c1, hbl⟩ := h.at k h1.lt
  have : p.funcs[k]'h1.lt = x := by
    have := h1.at_
    rw [List.getElem?_eq_getElem h1.lt] at this
    exact Option.some.inj this
  rw [this] at c0 hbl
  exact ⟨b, off, cap, vb, rfl, hb, c0, c1, hbl⟩

set_option maxRecDepth 100000 in
set_option maxHeartbeats 8000000 in
theorem regsP_calls (p : Px) (f : Int) (v : Value) (w : World) (hp : PrAt w v p) (htab : Tab w) (hs : Small p) (hok : POk p) :
    Calls Tryd.prog 10 #[v, .int .i64 f] w (TwoR (if findP p f = 0 then (cntP p f : Int) else 0) (findP p f) w) := by
  have hp0 := hp
  obtain ⟨vt, vf, rfl, ht, hf⟩ := hp
  have hb0 := alloc_below w (.cells #[vt, vf] 29)
  have HC := hid (find_calls p f _ _ (hp0.below hb0) (htab.on hb0) hs hok)
  have HB0 := hid hb0
  by_cases hz : findP p f = 0
  rotate_left
  · rw [if_neg hz]
    have e0 : (findP p f != 0) = true := by simpa using hz
    obtain ⟨ta, tc, rfl⟩ := ht.slice
    obtain ⟨fa, fc, rfl, hfl⟩ := hf.slice
    clear ht hf htab hs hok hp0 hb0
    generalize findP p f = fe at *
    generalize p.types.length = n1 at *
    generalize p.funcs.length = n2 at *
    go_enter Tryd.func10, Tryd.ntmps10
    go_wp2_with fail
    refine HC.out.mono ?_
    rintro e w1 ⟨rfl, hb1⟩
    have hbe := HB0.out.trans (hb1.mono HB0.out.size)
    clear HC hb1 hz
    go_wp2
    go_ret2
    exact ⟨rfl, hbe⟩
  rw [if_pos hz]
  rw [hz] at HC ⊢
  obtain ⟨k, x, h1⟩ := has1 hz
  rw [cnt_at h1]
  obtain ⟨fb, foff, fcap, vb, rfl, hfb, c0, c1, hbl⟩ := fn_at hf h1
  have hle : parOf p.types x.sig + manyB x.blocks ≤ 1000000 := by
    have := par_le hs.parts h1.sig0 h1.sig1
    have := h1.many
    omega
  have HR := hid (fun wx (hx : Below w.heap.size w wx) => regs_calls p.types x vt (.slice (some ⟨fb, foff, none⟩) p.funcs.length fcap) vb wx (ht.below hx) ⟨_, _, _, rfl⟩ h1.sig0 h1.sig1 (hbl.below blkStays hx) hle)
  obtain ⟨ta, tc, rfl⟩ := ht.slice
  obtain ⟨ba, bc, rfl, _⟩ := hbl.slice
  have hkl : (k : Int) < p.funcs.length := by have := h1.lt; omega
  have hk0 : (0 : Int) ≤ k := by omega
  have hke := h1.eq
  have HLT := hid hfb
  have HC0 := hid c0
  have HC1 := hid c1
  clear ht hf htab hs hok hp0 hb0 hz hbl hle h1 c0 c1
  subst hke
  generalize parOf p.types x.sig + manyB x.blocks = cnt at *
  obtain ⟨sg, bl⟩ := x
  simp only at *
  generalize p.types.length = n1 at *
  generalize p.funcs.length = n2 at *
  generalize bl.length = n4 at *
  go_enter Tryd.func10, Tryd.ntmps10
  go_wp2_with fail
  refine HC.out.mono ?_
  rintro e w3 ⟨rfl, hb1⟩
  have hbe := HB0.out.trans (hb1.mono HB0.out.size)
  obtain ⟨f1, _, s1, _⟩ := copyF (alloc_new _ _) hb1 (by simp only [World.size_alloc]; omega)
  have p0 := f1 0 (by simp); have p1 := f1 1 (by simp)
  simp only [List.getElem_toArray, List.getElem_cons_succ, List.getElem_cons_zero] at p0 p1
  have d0 := (hbe.cell (p := ⟨fb, foff + k * 2, none⟩) HLT.out).trans HC0.out
  have d1 := (hbe.cell (p := ⟨fb, foff + k * 2 + 1, none⟩) HLT.out).trans HC1.out
  have s2 := Nat.lt_of_lt_of_le HLT.out hbe.size
  clear HC hb1 f1
  have HBE := hid hbe
  have HBd : Hid (Below w.heap.size w w3.drew) := hbe.drew
  clear hbe
  go_wp2_with fail
  have HOS := hid (old_start w3)
  generalize hn3 : w3.heap.size = n3 at *
  have HN3 := hid hn3
  clear hn3
  go_region_held3 (fun w' => n3 ≤ w'.heap.size ∧ ∀ b o, b < n3 → w'.cell? ⟨b, o, none⟩ = w3.cell? ⟨b, o, none⟩)
    (first | with_reducible exact HOS.out | with_reducible exact old_call (by assumption) (by assumption))
    (first | (go_at_call 33; (with_reducible refine (HR.out w3.drew HBd.out).mono ?_); rintro e w4 ⟨rfl, hb4⟩))
  all_goals
    have hbe := HBd.out.trans (hb4.mono HBd.out.size)
    go_wp2
    go_ret2
    exact ⟨rfl, hbe⟩
end Go.Proofs.YtaegidmodenomaaDoor.ShJ
