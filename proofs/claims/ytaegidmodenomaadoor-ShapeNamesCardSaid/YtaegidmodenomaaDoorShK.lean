/- Walk over shape.Place. -/
import Derived.Test.YtaegidmodenomaaDoorShJ
namespace Go.Proofs.YtaegidmodenomaaDoor.ShK
open Go.RowKit Go.Lib SetP IntO TyM TyP TyB TyC ShM ShP ShA ShB ShC ShE ShQ ShF ShG ShH ShI ShJ

/-- the block, and the place in it, of an instruction by its number -/
def locate : List Bx → Nat → Nat × Nat
  | [], n => (0, n)
  | b :: l, n => if n < b.ins.length then (0, n) else ((locate l (n - b.ins.length)).1 + 1, (locate l (n - b.ins.length)).2)
theorem locate_of : ∀ (l : List Bx) (n j i : Nat) (h : j < l.length), manyB (l.take j) + i = n → i < l[j].ins.length → locate l n = (j, i)
  | [], _, _, _, h, _, _ => by simp at h
  | b :: l, n, 0, i, h, h1, h2 => by
    simp [manyB_nil] at h1
    subst h1
    unfold locate
    rw [if_pos (by simpa using h2)]
  | b :: l, n, j + 1, i, h, h1, h2 => by
    rw [List.take_succ_cons, manyB_cons] at h1
    have ih := locate_of l (n - b.ins.length) j i (by simpa using h) (by omega) (by simpa using h2)
    unfold locate
    rw [if_neg (by omega), ih]
theorem more_blocks {l : List Bx} {j n : Nat} (h : manyB (l.take j) ≤ n) (hn : n < manyB l) : j < l.length := by
  by_cases hj : j < l.length
  · exact hj
  · rw [List.take_of_length_le (by omega)] at h; omega
/-- what Place answers -/
def fnP (p : Px) (f : Int) : Fx := (p.funcs[f.toNat]?).getD default
theorem fn_eq {p : Px} {f : Int} {k : Nat} {x : Fx} (h : Has1 p f k x) : fnP p f = x := by
  unfold fnP
  rw [h.eq, Int.toNat_natCast, h.at_]; rfl
def placeE (p : Px) (f r : Int) : Int := if findP p f ≠ 0 then findP p f else if 0 ≤ r ∧ r < cntP p f then 0 else 2
def placeB (p : Px) (f r : Int) : Int := if placeE p f r ≠ 0 then (0 : Int) else if r < parOf p.types (fnP p f).sig then (-1 : Int) else (((locate (fnP p f).blocks (r - parOf p.types (fnP p f).sig).toNat).1 : Nat) : Int)
def placeI (p : Px) (f r : Int) : Int := if placeE p f r ≠ 0 then (0 : Int) else if r < parOf p.types (fnP p f).sig then r else (((locate (fnP p f).blocks (r - parOf p.types (fnP p f).sig).toNat).2 : Nat) : Int)
theorem cell_new_drew (w : World) (v : Value) (t : TypeId) : (w.alloc (.cells #[v] t)).drew.cell? ⟨w.heap.size, 0, none⟩ = some v := cell_new w v t _ rfl
theorem size_new_drew (w : World) (o : Obj) : w.heap.size < (w.alloc o).drew.heap.size := size_new w o _ rfl

set_option maxRecDepth 100000 in
set_option maxHeartbeats 16000000 in
theorem place_calls (p : Px) (f r : Int) (v : Value) (w : World) (hp : PrAt w v p) (htab : Tab w) (hs : Small p) (hok : POk p) (hr : -9223372036854775808 ≤ r ∧ r ≤ 9223372036854775807) :
    Calls Tryd.prog 11 #[v, .int .i64 f, .int .i64 r] w (ThreeR (placeB p f r) (placeI p f r) (placeE p f r) w) := by
  have hp0 := hp
  obtain ⟨vt, vf, rfl, ht, hf⟩ := hp
  have hb0 := alloc_below w (.cells #[vt, vf] 29)
  have HC := hid (find_calls p f _ _ (hp0.below hb0) (htab.on hb0) hs hok)
  have HB0 := hid hb0
  have HPE : Hid (placeE p f r = if findP p f ≠ 0 then findP p f else if 0 ≤ r ∧ r < cntP p f then 0 else 2) := rfl
  have HPB : Hid (placeB p f r = if placeE p f r ≠ 0 then (0 : Int) else if r < parOf p.types (fnP p f).sig then (-1 : Int) else (((locate (fnP p f).blocks (r - parOf p.types (fnP p f).sig).toNat).1 : Nat) : Int)) := rfl
  have HPI : Hid (placeI p f r = if placeE p f r ≠ 0 then (0 : Int) else if r < parOf p.types (fnP p f).sig then r else (((locate (fnP p f).blocks (r - parOf p.types (fnP p f).sig).toNat).2 : Nat) : Int)) := rfl
  generalize placeB p f r = pb at *
  generalize placeI p f r = pi at *
  generalize placeE p f r = pe at *
  by_cases hz : findP p f = 0
  rotate_left
  · rw [if_pos hz] at HPE
    rw [HPE.out] at HPB HPI
    rw [if_pos hz] at HPB HPI
    have e0 : (findP p f != 0) = true := by simpa using hz
    obtain ⟨ta, tc, rfl⟩ := ht.slice
    obtain ⟨fa, fc, rfl, hfl⟩ := hf.slice
    rw [HPE.out, HPB.out, HPI.out]
    clear ht hf htab hs hok hp0 hb0 hr HPE HPB HPI
    generalize findP p f = fe at *
    generalize p.types.length = n1 at *
    generalize p.funcs.length = n2 at *
    go_enter Tryd.func11, Tryd.ntmps11
    go_wp2_with fail
    refine HC.out.mono ?_
    rintro e w1 ⟨rfl, hb1⟩
    have hbe := HB0.out.trans (hb1.mono HB0.out.size)
    clear HC hb1 hz
    go_wp2
    go_ret3
    exact ⟨rfl, hbe⟩
  rw [if_neg (fun e => e hz)] at HPE
  rw [hz] at HC
  obtain ⟨k, x, h1⟩ := has1 hz
  rw [cnt_at h1] at HPE
  rw [fn_eq h1] at HPB HPI
  obtain ⟨fb, foff, fcap, vb, rfl, hfb, c0, c1, hbl⟩ := fn_at hf h1
  have hpl := par_le hs.parts h1.sig0 h1.sig1
  have hmany := h1.many
  have hle : parOf p.types x.sig + manyB x.blocks ≤ 1000000 := by omega
  have HR := hid (fun wx (hx : Below w.heap.size w wx) => regs_calls p.types x vt (.slice (some ⟨fb, foff, none⟩) p.funcs.length fcap) vb wx (ht.below hx) ⟨_, _, _, rfl⟩ h1.sig0 h1.sig1 (hbl.below blkStays hx) hle)
  have HPA := hid (fun wx (hx : Below w.heap.size w wx) => params_calls p.types x vt (.slice (some ⟨fb, foff, none⟩) p.funcs.length fcap) vb wx (ht.below hx) ⟨_, _, _, rfl⟩ h1.sig0 h1.sig1 (hbl.below blkStays hx).slice)
  have HBL := hid (fun (u : Value) (wx : World) (hv : IntsAt wx u [r]) => ShE.below_calls ((parOf p.types x.sig + manyB x.blocks : Nat) : Int) u [r] wx hv)
  rw [low_one] at HBL
  have HBLK := hid hbl
  obtain ⟨ta, tc, rfl⟩ := ht.slice
  obtain ⟨ba, bc, rfl, _⟩ := hbl.slice
  have hkl : (k : Int) < p.funcs.length := by have := h1.lt; omega
  have hk0 : (0 : Int) ≤ k := by omega
  have hke := h1.eq
  have HLT := hid hfb
  have HC0 := hid c0
  have HC1 := hid c1
  have HMANY : Hid (manyB x.blocks ≤ 128) := hmany
  have HPL : Hid (parOf p.types x.sig ≤ 20) := hpl
  have HMT := hid (fun j (h : j < x.blocks.length) => manyB_take h)
  have HML := hid (manyB_le x.blocks)
  have HMB := hid (fun j n (h1 : manyB (x.blocks.take j) ≤ n) (h2 : n < manyB x.blocks) => more_blocks h1 h2)
  have HLO := hid (locate_of x.blocks)
  have HRB := hid hr
  have HJL : Hid (x.blocks.length ≤ 16) := h1.blocks
  clear ht hf htab hs hok hp0 hb0 hz hbl hle h1 c0 c1 hmany hpl hr
  subst hke
  generalize hpar : parOf p.types x.sig = par at *
  have HPAR := hid hpar
  clear hpar
  generalize p.types.length = n1 at *
  generalize p.funcs.length = n2 at *
  generalize hcnt : par + manyB x.blocks = cnt at *
  have HCNT := hid hcnt
  clear hcnt
  generalize hin : decide (0 ≤ r ∧ r < ((cnt : Nat) : Int)) = inr at *
  have HIN := hid hin
  clear hin
  go_enter Tryd.func11, Tryd.ntmps11
  go_wp2_with fail
  refine HC.out.mono ?_
  rintro e w3 ⟨rfl, hb1⟩
  have hbe := HB0.out.trans (hb1.mono HB0.out.size)
  obtain ⟨f1, _, s1, k1⟩ := copyF (alloc_new _ _) hb1 (by simp only [World.size_alloc]; omega)
  have HK1 := hid k1
  have p0 := f1 0 (by simp); have p1 := f1 1 (by simp)
  simp only [List.getElem_toArray, List.getElem_cons_succ, List.getElem_cons_zero] at p0 p1
  have d0 := (hbe.cell (p := ⟨fb, foff + k * 2, none⟩) HLT.out).trans HC0.out
  have d1 := (hbe.cell (p := ⟨fb, foff + k * 2 + 1, none⟩) HLT.out).trans HC1.out
  have s2 := Nat.lt_of_lt_of_le HLT.out hbe.size
  clear HC hb1 f1 k1
  have HBE := hid hbe
  have HBd : Hid (Below w.heap.size w w3.drew) := hbe.drew
  have HBd2 : Hid (∀ o, Below w.heap.size w (w3.alloc o).drew) := fun o => (HBE.out.alloc HBE.out.size o).drew
  clear hbe
  go_upto_region 4 with fail
  go_cut [26] (fun okv wc => okv = .bool (!inr) ∧ Below w3.heap.size w3 wc)
  case first =>
    have HOS := hid (old_start w3)
    generalize hn3 : w3.heap.size = n3 at *
    have HN3 := hid hn3
    clear hn3
    have hs3 : n3 ≤ w3.heap.size := Nat.le_of_eq HN3.out.symm
    have HOS2 : Hid (n3 ≤ w3.heap.size ∧ ∀ b o, b < n3 → w3.cell? ⟨b, o, none⟩ = w3.cell? ⟨b, o, none⟩) := ⟨hs3, fun _ _ _ => rfl⟩
    refine wp_region_noPanic ?_
    refine wp_region_held_drew (S := (fun w' => n3 ≤ w'.heap.size ∧ ∀ b o, b < n3 → w'.cell? ⟨b, o, none⟩ = w3.cell? ⟨b, o, none⟩)) (by kernel_rfl) ?_ (fun hHeld => ?_)
    · (try dsimp only)
      (first | with_reducible exact HOS.out | with_reducible exact old_drew (old_alloc HOS2.out) | with_reducible exact old_alloc (by assumption) | with_reducible exact old_call (by assumption) (by assumption))
    refine wpAnyH_take (i := 0) (oi := { dst := some 16, op := Go.Op.load 29 (Go.Operand.tmp 3), type := 29, pos := "shape.go:99", after := #[], guard := none }) (v := ?_) rfl (by kernel_rfl) (by kernel_rfl) (by kernel_rfl) (fun _ _ _ h => h) (Or.inl ⟨by rfl, ?_⟩) (by assumption) ?_
    rotate_left
    · intro w hSw; (try dsimp only at hSw); go_simp; all_goals (try with_reducible rfl)
    try simp only [Act.put, List.setIfInBounds_toArray, List.set_cons_zero, List.set_cons_succ]
    refine wpAnyH_take (i := 1) (oi := { dst := some 17, op := Go.Op.fieldAddr 29 (Go.Operand.tmp 3) 1, type := 0, pos := "shape.go:99", after := #[], guard := none }) (v := ?_) rfl (by kernel_rfl) (by kernel_rfl) (by kernel_rfl) (fun _ _ _ h => h) (Or.inl ⟨by rfl, ?_⟩) (by assumption) ?_
    rotate_left
    · intro w hSw; (try dsimp only at hSw); go_simp; all_goals (try with_reducible rfl)
    try simp only [Act.put, List.setIfInBounds_toArray, List.set_cons_zero, List.set_cons_succ]
    refine wpAnyH_take (i := 2) (oi := { dst := some 18, op := Go.Op.load 27 (Go.Operand.tmp 17), type := 27, pos := "shape.go:99", after := #[{ on := 1, ground := Go.Ground.data }], guard := none }) (v := ?_) rfl (by kernel_rfl) (by kernel_rfl) (by kernel_rfl) (fun _ _ _ h => h) (Or.inl ⟨by rfl, ?_⟩) (by assumption) ?_
    rotate_left
    · intro w hSw; (try dsimp only at hSw); go_simp; all_goals (try with_reducible rfl)
    try simp only [Act.put, List.setIfInBounds_toArray, List.set_cons_zero, List.set_cons_succ]
    refine wpAnyH_take (i := 3) (oi := { dst := some 19, op := Go.Op.move (Go.Operand.tmp 1), type := 3, pos := "shape.go:99", after := #[], guard := none }) (v := ?_) rfl (by kernel_rfl) (by kernel_rfl) (by kernel_rfl) (fun _ _ _ h => h) (Or.inl ⟨by rfl, ?_⟩) (by assumption) ?_
    rotate_left
    · intro w hSw; (try dsimp only at hSw); go_simp; all_goals (try with_reducible rfl)
    try simp only [Act.put, List.setIfInBounds_toArray, List.set_cons_zero, List.set_cons_succ]
    refine wpAnyH_take (i := 4) (oi := { dst := some 20, op := Go.Op.indexAddr 27 (Go.Operand.tmp 18) (Go.Operand.tmp 19), type := 0, pos := "shape.go:99", after := #[{ on := 2, ground := Go.Ground.data }, { on := 3, ground := Go.Ground.data }], guard := none }) (v := ?_) rfl (by kernel_rfl) (by kernel_rfl) (by kernel_rfl) (fun _ _ _ h => h) (Or.inl ⟨by rfl, ?_⟩) (by assumption) ?_
    rotate_left
    · intro w hSw; (try dsimp only at hSw); go_simp; all_goals (try with_reducible rfl)
    try simp only [Act.put, List.setIfInBounds_toArray, List.set_cons_zero, List.set_cons_succ]
    refine wpAnyH_take (i := 5) (oi := { dst := some 21, op := Go.Op.load 33 (Go.Operand.tmp 20), type := 33, pos := "shape.go:99", after := #[{ on := 4, ground := Go.Ground.data }], guard := none }) (v := ?_) rfl (by kernel_rfl) (by kernel_rfl) (by kernel_rfl) (fun _ _ _ h => h) (Or.inl ⟨by rfl, ?_⟩) (by assumption) ?_
    rotate_left
    · intro w hSw; (try dsimp only at hSw); go_simp; all_goals (try with_reducible rfl)
    try simp only [Act.put, List.setIfInBounds_toArray, List.set_cons_zero, List.set_cons_succ]
    refine wpAnyH_take (i := 7) (oi := { dst := some 23, op := Go.Op.move (Go.Operand.tmp 2), type := 3, pos := "shape.go:99", after := #[], guard := none }) (v := ?_) rfl (by kernel_rfl) (by kernel_rfl) (by kernel_rfl) (fun _ _ _ h => h) (Or.inl ⟨by rfl, ?_⟩) (by assumption) ?_
    rotate_left
    · intro w hSw; (try dsimp only at hSw); go_simp; all_goals (try with_reducible rfl)
    try simp only [Act.put, List.setIfInBounds_toArray, List.set_cons_zero, List.set_cons_succ]
    refine wpAnyH_ready (rs := [6, 8]) (by kernel_rfl) (by simp) ?_
    refine AllReadyH.cons (o := { dst := some 22, op := Go.Op.call { callee := Go.Callee.value (Go.Operand.func 33), args := #[Go.Operand.tmp 16, Go.Operand.tmp 21], argTypes := #[29, 33] }, type := 3, pos := "shape.go:99", after := #[{ on := 0, ground := Go.Ground.data }, { on := 5, ground := Go.Ground.data }], guard := none }) rfl (fun K hK => ?_) ?_
    · go_simp
      (go_at_call 33; (with_reducible refine (HR.out w3.drew HBd.out).mono ?_); rintro e w4 ⟨rfl, hb4⟩; have B4 := below_go (Below.refl n3 w3).drew hb4 hs3; have s4 := below_size hs3 B4)
      refine hK.out _ _ ?_ (fun hHeld => ?_)
      · (try dsimp only)
        (first | with_reducible exact HOS.out | with_reducible exact old_drew (old_alloc HOS2.out) | with_reducible exact old_alloc (by assumption) | with_reducible exact old_call (by assumption) (by assumption))
      clear hK K
      try simp only [Act.put, List.setIfInBounds_toArray, List.set_cons_zero, List.set_cons_succ]
      refine wpAnyH_ready (rs := [8]) (by kernel_rfl) (by simp) ?_
      refine AllReadyH.cons (o := { dst := some 24, op := Go.Op.buildSlice 23 1 #[(0, Go.Operand.tmp 23)], type := 23, pos := "shape.go:99", after := #[{ on := 7, ground := Go.Ground.data }], guard := none }) rfl (fun K hK => ?_) ?_
      · go_simp
        refine hK.out _ _ ?_ (fun hHeld => ?_)
        · (try dsimp only)
          (first | with_reducible exact HOS.out | with_reducible exact old_drew (old_alloc HOS2.out) | with_reducible exact old_alloc (by assumption) | with_reducible exact old_call (by assumption) (by assumption))
        clear hK K
        try simp only [Act.put, List.setIfInBounds_toArray, List.set_cons_zero, List.set_cons_succ]
        refine wpAnyH_ready (rs := [9]) (by kernel_rfl) (by simp) ?_
        refine AllReadyH.cons (o := { dst := some 25, op := Go.Op.call { callee := Go.Callee.value (Go.Operand.func 34), args := #[Go.Operand.tmp 22, Go.Operand.tmp 24], argTypes := #[3, 23] }, type := 4, pos := "shape.go:99", after := #[{ on := 6, ground := Go.Ground.data }, { on := 8, ground := Go.Ground.data }, { on := 6, ground := Go.Ground.chain }], guard := none }) rfl (fun K hK => ?_) ?_
        · go_simp
          (go_at_call 34; (with_reducible refine (HBL.out _ _ (ints_one (cell_new w4 _ _ _ rfl) (size_new w4 _ _ rfl))).mono ?_); rintro e w5 ⟨rfl, hb5⟩; have B5 := below_go (B4.alloc s4 _) hb5 (Nat.le_trans s4 (alloc_below _ _).size))
          refine hK.out _ _ ?_ (fun hHeld => ?_)
          · (try dsimp only)
            (first | with_reducible exact HOS.out | with_reducible exact old_drew (old_alloc HOS2.out) | with_reducible exact old_alloc (by assumption) | with_reducible exact old_call (by assumption) (by assumption))
          clear hK K
          try simp only [Act.put, List.setIfInBounds_toArray, List.set_cons_zero, List.set_cons_succ]
          refine wpAnyH_take (i := 10) (oi := { dst := some 26, op := Go.Op.unOp Go.UnOp.not 4 (Go.Operand.tmp 25), type := 4, pos := "shape.go:99", after := #[{ on := 9, ground := Go.Ground.data }], guard := none }) (v := ?_) rfl (by kernel_rfl) (by kernel_rfl) (by kernel_rfl) (fun _ _ _ h => h) (Or.inl ⟨by rfl, ?_⟩) (by assumption) ?_
          rotate_left
          · intro w hSw; (try dsimp only at hSw); go_simp; all_goals (try with_reducible rfl)
          try simp only [Act.put, List.setIfInBounds_toArray, List.set_cons_zero, List.set_cons_succ]
          refine wpAnyH_done (by kernel_rfl) ?_ _
          refine NoPanic.normal ?_
          go_wp2_with fail
          go_meet
          case rel => exact ⟨rfl, B5⟩
        exact AllReadyH.nil
      exact AllReadyH.nil
    refine AllReadyH.cons (o := { dst := some 24, op := Go.Op.buildSlice 23 1 #[(0, Go.Operand.tmp 23)], type := 23, pos := "shape.go:99", after := #[{ on := 7, ground := Go.Ground.data }], guard := none }) rfl (fun K hK => ?_) ?_
    · go_simp
      refine hK.out _ _ ?_ (fun hHeld => ?_)
      · (try dsimp only)
        (first | with_reducible exact HOS.out | with_reducible exact old_drew (old_alloc HOS2.out) | with_reducible exact old_alloc (by assumption) | with_reducible exact old_call (by assumption) (by assumption))
      clear hK K
      try simp only [Act.put, List.setIfInBounds_toArray, List.set_cons_zero, List.set_cons_succ]
      refine wpAnyH_ready (rs := [6]) (by kernel_rfl) (by simp) ?_
      refine AllReadyH.cons (o := { dst := some 22, op := Go.Op.call { callee := Go.Callee.value (Go.Operand.func 33), args := #[Go.Operand.tmp 16, Go.Operand.tmp 21], argTypes := #[29, 33] }, type := 3, pos := "shape.go:99", after := #[{ on := 0, ground := Go.Ground.data }, { on := 5, ground := Go.Ground.data }], guard := none }) rfl (fun K hK => ?_) ?_
      · go_simp
        (go_at_call 33; (with_reducible refine (HR.out _ (HBd2.out _)).mono ?_); rintro e w4 ⟨rfl, hb4⟩; have B4 := below_go ((Below.refl n3 w3).alloc hs3 _).drew hb4 (Nat.le_trans hs3 (alloc_below _ _).size); have s4 := below_size hs3 B4)
        refine hK.out _ _ ?_ (fun hHeld => ?_)
        · (try dsimp only)
          (first | with_reducible exact HOS.out | with_reducible exact old_drew (old_alloc HOS2.out) | with_reducible exact old_alloc (by assumption) | with_reducible exact old_call (by assumption) (by assumption))
        clear hK K
        try simp only [Act.put, List.setIfInBounds_toArray, List.set_cons_zero, List.set_cons_succ]
        refine wpAnyH_ready (rs := [9]) (by kernel_rfl) (by simp) ?_
        refine AllReadyH.cons (o := { dst := some 25, op := Go.Op.call { callee := Go.Callee.value (Go.Operand.func 34), args := #[Go.Operand.tmp 22, Go.Operand.tmp 24], argTypes := #[3, 23] }, type := 4, pos := "shape.go:99", after := #[{ on := 6, ground := Go.Ground.data }, { on := 8, ground := Go.Ground.data }, { on := 6, ground := Go.Ground.chain }], guard := none }) rfl (fun K hK => ?_) ?_
        · go_simp
          (go_at_call 34; (with_reducible refine (HBL.out _ _ (ints_one (keep_below hb4 (cell_new_drew w3 _ _)) (Nat.lt_of_lt_of_le (size_new_drew w3 _) hb4.size))).mono ?_); rintro e w5 ⟨rfl, hb5⟩; have B5 := below_go B4 hb5 s4)
          refine hK.out _ _ ?_ (fun hHeld => ?_)
          · (try dsimp only)
            (first | with_reducible exact HOS.out | with_reducible exact old_drew (old_alloc HOS2.out) | with_reducible exact old_alloc (by assumption) | with_reducible exact old_call (by assumption) (by assumption))
          clear hK K
          try simp only [Act.put, List.setIfInBounds_toArray, List.set_cons_zero, List.set_cons_succ]
          refine wpAnyH_take (i := 10) (oi := { dst := some 26, op := Go.Op.unOp Go.UnOp.not 4 (Go.Operand.tmp 25), type := 4, pos := "shape.go:99", after := #[{ on := 9, ground := Go.Ground.data }], guard := none }) (v := ?_) rfl (by kernel_rfl) (by kernel_rfl) (by kernel_rfl) (fun _ _ _ h => h) (Or.inl ⟨by rfl, ?_⟩) (by assumption) ?_
          rotate_left
          · intro w hSw; (try dsimp only at hSw); go_simp; all_goals (try with_reducible rfl)
          try simp only [Act.put, List.setIfInBounds_toArray, List.set_cons_zero, List.set_cons_succ]
          refine wpAnyH_done (by kernel_rfl) ?_ _
          refine NoPanic.normal ?_
          go_wp2_with fail
          go_meet
          case rel => exact ⟨rfl, B5⟩
        exact AllReadyH.nil
      exact AllReadyH.nil
    exact AllReadyH.nil
  case rest =>
    obtain ⟨rfl, hbc⟩ := hcut
    have HBC := hid hbc
    have hbw := HBE.out.trans (hbc.mono HBE.out.size)
    clear p0 p1 d0 d1 s1 s2 HR HBL HBd HBd2
    obtain ⟨f1, _, s1, _⟩ := copyF HK1.out hbc (Array.getElem?_eq_some_iff.1 HK1.out).1
    have p0 := f1 0 (by simp); have p1 := f1 1 (by simp)
    simp only [List.getElem_toArray, List.getElem_cons_succ, List.getElem_cons_zero] at p0 p1
    have d0 := (hbw.cell (p := ⟨fb, foff + k * 2, none⟩) HLT.out).trans HC0.out
    have d1 := (hbw.cell (p := ⟨fb, foff + k * 2 + 1, none⟩) HLT.out).trans HC1.out
    have s2 := Nat.lt_of_lt_of_le HLT.out hbw.size
    clear f1 hbc
    cases inr with
    | false =>
      have HFE : Hid (pe = 2) := by show _ = _; rw [HPE.out, if_neg (of_decide_eq_false HIN.out)]
      have HFB : Hid (pb = 0) := by show _ = _; rw [HPB.out, HFE.out]; rfl
      have HFI : Hid (pi = 0) := by show _ = _; rw [HPI.out, HFE.out]; rfl
      clear HPE HPB HPI HPA HIN HBLK HMT HML HMB HLO HMANY
      go_wp2
      go_ret3
      exact ⟨by rw [HFE.out, HFB.out, HFI.out]; rfl, hbw⟩
    | true =>
      have hinr := of_decide_eq_true HIN.out
      have HFE : Hid (pe = 0) := by show _ = _; rw [HPE.out, if_pos hinr]
      rw [HFE.out] at HPB HPI
      rw [if_neg (fun e => e rfl)] at HPB HPI
      have HR0 : Hid (0 ≤ r ∧ r < ((cnt : Nat) : Int)) := hinr
      clear HPE HIN hinr
      obtain ⟨w6, hw6⟩ : ∃ w6, w6 = wc := ⟨_, rfl⟩
      subst hw6
      have hsub : IntKind.i64.wrap (r - (par : Int)) = r - par := by
        rw [IntWalk.i64_in _ (by have := HR0.out; have := HPL.out; have := HPAR.out; have := HCNT.out; have := HMANY.out; omega)]
      go_wp2_with fail
      have HPA1 := hid (HPA.out w6.drew hbw.drew)
      have HOS := hid (old_start w6)
      have HBW := hid hbw
      clear HPA hbw
      generalize hn6 : w6.heap.size = n6 at *
      have HN6 := hid hn6
      clear hn6
      go_region_held3 (fun w' => n6 ≤ w'.heap.size ∧ ∀ b o, b < n6 → w'.cell? ⟨b, o, none⟩ = w6.cell? ⟨b, o, none⟩)
        (first | with_reducible exact HOS.out | with_reducible exact old_call (by assumption) (by assumption))
        (first | (go_at_call 35; (with_reducible refine HPA1.out.mono ?_); rintro e w7 ⟨rfl, hb7⟩))
      all_goals
        have B7 := below_go (Below.refl n6 w6).drew hb7 (Nat.le_of_eq HN6.out.symm)
        have hb67 : Below w6.heap.size w6 w7 := by rw [HN6.out]; exact B7
        have HB7 := hid hb67
        have hbw7 := HBW.out.trans (hb67.mono HBW.out.size)
        clear p0 p1 d0 d1 s1 s2 HOS HPA1 hb7 B7
        have hb37 := HBC.out.trans (hb67.mono HBC.out.size)
        have HK7 := hid (keepBlk hb37 HK1.out)
        have HBW7 := hid hbw7
        clear hb67 hbw7 hb37 HBC HK1 HB7 HBW HN6
        by_cases hlt : r < (par : Int)
        · rw [if_pos hlt] at HPB HPI
          have hneg : r - (par : Int) < 0 := by omega
          clear HBLK HMT HML HMB HLO hlt
          go_wp2
          go_ret3
          exact ⟨by rw [HFE.out, HPB.out, HPI.out]; rfl, HBW7.out⟩
        · rw [if_neg hlt] at HPB HPI
          obtain ⟨N, hN⟩ : ∃ N : Nat, r - (par : Int) = N := ⟨(r - par).toNat, by omega⟩
          have hNt : (r - (par : Int)).toNat = N := by omega
          rw [hNt] at HPB HPI
          have hNlt : N < manyB x.blocks := by have := HR0.out; have := HCNT.out; omega
          have HNL := hid hNlt
          have hN300 : N ≤ 300 := by have := HMANY.out; omega
          rw [hN] at hsub ⊢
          clear hlt hNlt hNt hN HR0
          go_wp2_with fail
          go_loopg [6, 7] x.blocks.length (fun gk bv av wr => ∃ j i : Nat, j + gk = x.blocks.length ∧ bv = .int .i64 j ∧ av = .int .i64 i ∧ manyB (x.blocks.take j) + i = N ∧ Below w7.heap.size w7 wr)
          case atStart => exact ⟨0, N, by omega, rfl, rfl, by simp [manyB_nil], Below.refl _ _⟩
          case round =>
            obtain ⟨j, i, hj, rfl, rfl, hji, hbr⟩ := hrel
            have HJ := hid hj
            have HJI := hid hji
            have hjl : j < x.blocks.length := HMB.out j N (by omega) HNL.out
            have hbwr := HBW7.out.trans (hbr.mono HBW7.out.size)
            obtain ⟨f1, _, s1, _⟩ := copyF HK7.out hbr (Array.getElem?_eq_some_iff.1 HK7.out).1
            have p0 := f1 0 (by simp); have p1 := f1 1 (by simp)
            simp only [List.getElem_toArray, List.getElem_cons_succ, List.getElem_cons_zero] at p0 p1
            have d1 := (hbwr.cell (p := ⟨fb, foff + k * 2 + 1, none⟩) HLT.out).trans HC1.out
            obtain ⟨bb, boff, hba, hbb, vi, b0, b1, b2, b3, b4, hins⟩ := (HBLK.out.below blkStays hbwr).at j hjl
            subst hba
            obtain ⟨ia, ic, rfl, _⟩ := hins.slice
            have HMT2 := hid (HMT.out j hjl)
            have HLOC := hid (HLO.out N j i hjl hji)
            have hil : x.blocks[j].ins.length ≤ 300 := by
              have h1 := HML.out (j + 1)
              rw [HMT2.out] at h1
              have := HMANY.out
              omega
            have hi300 : i ≤ 300 := by omega
            have hjl16 : j ≤ 1000000 := by have := HJ.out; have := HJL.out; omega
            have hjn : (j : Int) < x.blocks.length := by omega
            clear f1 hins hj hji b1 b2 b3 b4
            generalize x.blocks[j].ins.length = il at *
            clear HMT HLO HMB HBLK HML
            by_cases hge : il ≤ i
            · have hgi : (il : Int) ≤ i := by omega
              clear HLOC
              go_wp2
              all_goals (try (exfalso; omega))
              go_roundg (gk - 1)
              case measure => have := HJ.out; omega
              case rel => exact ⟨j + 1, i - il, by have := HJ.out; omega, by go_num, by congr 1; omega, by have := HJI.out; have := HMT2.out; omega, hbr⟩
            · have hgi : ¬ (il : Int) ≤ i := by omega
              have HL2 := hid (HLOC.out (by omega))
              go_wp2
              all_goals (try (exfalso; omega))
              go_ret3
              exact ⟨by rw [HFE.out, HPB.out, HPI.out, HL2.out]; rfl, hbwr⟩
end Go.Proofs.YtaegidmodenomaaDoor.ShK
