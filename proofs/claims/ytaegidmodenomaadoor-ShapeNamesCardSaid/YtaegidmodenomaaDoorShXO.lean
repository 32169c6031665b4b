/- The chapter's program, turned: walk over fescuelaw06.odd. -/
import Derived.Test.YtaegidmodenomaaDoorShX
import Derived.Test.YtaegidmodenomaaDoorShTB
import Derived.Test.YtaegidmodenomaaDoorRgZ
import Derived.Test.YtaegidmodenomaaDoorAft
namespace Go.Proofs.YtaegidmodenomaaDoor.ShXO
open Go.RowKit Go.Lib SetP IntO TyM TyP TyB TyC ShM ShP ShA ShB ShC ShE ShQ ShF ShG ShH ShI ShJ ShK ShL ShX ShTB RgZ Aft

/-- the chapter's program, with another type, another last end -/
def chQ (x : Ix) (sig tt : Int) : Px := ⟨[⟨1, 0, 0, []⟩, ⟨3, 0, 0, []⟩], [⟨sig, [⟨[ix0], ⟨1, 0, 1, 0⟩⟩, ⟨[x], ⟨3, 1, tt, 0⟩⟩]⟩]⟩
def chN : Px := ⟨[⟨1, 0, 0, []⟩, ⟨3, 0, 0, []⟩], [⟨1, []⟩]⟩
theorem types_at {W : World} {b : Nat} (k5 : W.heap[b]? = some (.cells #[.int .u8 1, .int .i64 0, .int .i64 0, .slice none 0 0, .int .u8 3, .int .i64 0, .int .i64 0, .slice none 0 0] 65 (0, 0))) : TysAt W (.slice (some ⟨b, 0, none⟩) 2 2) [⟨1, 0, 0, []⟩, ⟨3, 0, 0, []⟩] := by
  refine ⟨some ⟨b, 0, none⟩, 2, rfl, by simp, fun _ => ⟨b, 0, rfl, lt_of k5, fun i h => ?_⟩, (fun h => by cases h), by simp⟩
  have hi : i = 0 ∨ i = 1 := by
    have : i < 2 := h
    omega
  rcases hi with rfl | rfl
  · exact ⟨.slice none 0 0, cells_of k5 0 _ rfl, cells_of k5 1 _ rfl, cells_of k5 2 _ rfl, cells_of k5 3 _ rfl, ints_none W⟩
  · exact ⟨.slice none 0 0, cells_of k5 4 _ rfl, cells_of k5 5 _ rfl, cells_of k5 6 _ rfl, cells_of k5 7 _ rfl, ints_none W⟩
theorem prog_at {W : World} {b1 b3 b5 b6 b7 : Nat} {x : Ix} {va vf : Value} {sig tt : Int} (k1 : W.heap[b1]? = some (.cells #[.int .u8 1, .int .i64 0, .int .i64 0, .int .i64 0, .int .i64 5, .slice none 0 0, .slice none 0 0] 25 (0, 0)))
    (k3 : W.heap[b3]? = some (.cells #[.int .u8 x.op, .int .i64 x.typ, .int .i64 x.a, .int .i64 x.b, .int .i64 x.n, va, vf] 25 (0, 0))) (k5 : W.heap[b5]? = some (.cells #[.int .u8 1, .int .i64 0, .int .i64 0, .slice none 0 0, .int .u8 3, .int .i64 0, .int .i64 0, .slice none 0 0] 65 (0, 0)))
    (k6 : W.heap[b6]? = some (.cells #[.slice (some ⟨b1, 0, none⟩) 1 1, .int .u8 1, .int .i64 0, .int .i64 1, .int .i64 0, .slice (some ⟨b3, 0, none⟩) 1 1, .int .u8 3, .int .i64 1, .int .i64 tt, .int .i64 0] 38 (0, 0))) (k7 : W.heap[b7]? = some (.cells #[.int .i64 sig, .slice (some ⟨b6, 0, none⟩) 2 2] 33 (0, 0)))
    (ha : IntsAt W va x.args) (hf : IntsAt W vf x.frm) : PrAt W (.agg #[.slice (some ⟨b5, 0, none⟩) 2 2, .slice (some ⟨b7, 0, none⟩) 1 1]) (chQ x sig tt) := by
  have i0 : InsAt W (.slice (some ⟨b1, 0, none⟩) 1 1) [ix0] := row_block (lt_of k1) rfl (by simp) fun i h => by
    obtain rfl : i = 0 := by simpa using h
    exact ⟨.slice none 0 0, .slice none 0 0, cells_of k1 0 _ rfl, cells_of k1 1 _ rfl, cells_of k1 2 _ rfl, cells_of k1 3 _ rfl, cells_of k1 4 _ rfl, cells_of k1 5 _ rfl, cells_of k1 6 _ rfl, ints_none W, ints_none W⟩
  have i1 : InsAt W (.slice (some ⟨b3, 0, none⟩) 1 1) [x] := row_block (lt_of k3) rfl (by simp) fun i h => by
    obtain rfl : i = 0 := by simpa using h
    exact ⟨va, vf, cells_of k3 0 _ rfl, cells_of k3 1 _ rfl, cells_of k3 2 _ rfl, cells_of k3 3 _ rfl, cells_of k3 4 _ rfl, cells_of k3 5 _ rfl, cells_of k3 6 _ rfl, ha, hf⟩
  refine ⟨_, _, rfl, types_at k5, ?_⟩
  refine row_block (lt_of k7) rfl (by simp [chQ]) fun i h => ?_
  obtain rfl : i = 0 := by
    have : i < 1 := h
    omega
  refine ⟨_, cells_of k7 0 _ rfl, cells_of k7 1 _ rfl, ?_⟩
  refine row_block (lt_of k6) rfl (by simp [chQ]) fun i h => ?_
  have hi : i = 0 ∨ i = 1 := by
    have : i < 2 := h
    omega
  rcases hi with rfl | rfl
  · exact ⟨_, cells_of k6 0 _ rfl, cells_of k6 1 _ rfl, cells_of k6 2 _ rfl, cells_of k6 3 _ rfl, cells_of k6 4 _ rfl, i0⟩
  · exact ⟨_, cells_of k6 5 _ rfl, cells_of k6 6 _ rfl, cells_of k6 7 _ rfl, cells_of k6 8 _ rfl, cells_of k6 9 _ rfl, i1⟩
theorem prog_none {W : World} {b5 b7 : Nat} (k5 : W.heap[b5]? = some (.cells #[.int .u8 1, .int .i64 0, .int .i64 0, .slice none 0 0, .int .u8 3, .int .i64 0, .int .i64 0, .slice none 0 0] 65 (0, 0)))
    (k7 : W.heap[b7]? = some (.cells #[.int .i64 1, .slice none 0 0] 33 (0, 0))) : PrAt W (.agg #[.slice (some ⟨b5, 0, none⟩) 2 2, .slice (some ⟨b7, 0, none⟩) 1 1]) chN := by
  refine ⟨_, _, rfl, types_at k5, ?_⟩
  refine row_block (lt_of k7) rfl (by simp [chN]) fun i h => ?_
  obtain rfl : i = 0 := by
    have : i < 1 := h
    omega
  exact ⟨_, cells_of k7 0 _ rfl, cells_of k7 1 _ rfl, RowAt.none W⟩

/-- seven cells, stored -/
def set7 (w : World) (b : Nat) (u0 u1 u2 u3 u4 u5 u6 : Value) : World := ((((((w.setCell ⟨b, 0, none⟩ u0).setCell ⟨b, 1, none⟩ u1).setCell ⟨b, 2, none⟩ u2).setCell ⟨b, 3, none⟩ u3).setCell ⟨b, 4, none⟩ u4).setCell ⟨b, 5, none⟩ u5).setCell ⟨b, 6, none⟩ u6
theorem set7_at {w : World} {b : Nat} {t : TypeId} {x0 x1 x2 x3 x4 x5 x6 : Value} (u0 u1 u2 u3 u4 u5 u6 : Value) (h : w.heap[b]? = some (.cells #[x0, x1, x2, x3, x4, x5, x6] t (0, 0))) : (set7 w b u0 u1 u2 u3 u4 u5 u6).heap[b]? = some (.cells #[u0, u1, u2, u3, u4, u5, u6] t (0, 0)) := by
  have := ShTB.set_heap' (i := 6) u6 (ShTB.set_heap' (i := 5) u5 (ShTB.set_heap' (i := 4) u4 (ShTB.set_heap' (i := 3) u3 (ShTB.set_heap' (i := 2) u2 (ShTB.set_heap' (i := 1) u1 (ShTB.set_heap' (i := 0) u0 h))))))
  exact this.trans (by simp)
theorem set7_ne {w : World} {b k : Nat} (u0 u1 u2 u3 u4 u5 u6 : Value) (h : k ≠ b) : (set7 w b u0 u1 u2 u3 u4 u5 u6).heap[k]? = w.heap[k]? :=
  (Below.heap_setCell _ _ _ k h).trans ((Below.heap_setCell _ _ _ k h).trans ((Below.heap_setCell _ _ _ k h).trans ((Below.heap_setCell _ _ _ k h).trans ((Below.heap_setCell _ _ _ k h).trans ((Below.heap_setCell _ _ _ k h).trans (Below.heap_setCell _ _ _ k h))))))
theorem set7_below {B : Nat} {a w : World} {b : Nat} (u0 u1 u2 u3 u4 u5 u6 : Value) (h : Below B a w) (hB : B ≤ b) : Below B a (set7 w b u0 u1 u2 u3 u4 u5 u6) :=
  ((((((h.setCell (p := ⟨b, 0, none⟩) hB _).setCell (p := ⟨b, 1, none⟩) hB _).setCell (p := ⟨b, 2, none⟩) hB _).setCell (p := ⟨b, 3, none⟩) hB _).setCell (p := ⟨b, 4, none⟩) hB _).setCell (p := ⟨b, 5, none⟩) hB _).setCell (p := ⟨b, 6, none⟩) hB _

theorem drew_heap (X : World) : X.drew.heap = X.heap := rfl
theorem set7_world (w : World) (b : Nat) (t : TypeId) (x0 x1 x2 x3 x4 x5 x6 u0 u1 u2 u3 u4 u5 u6 : Value) (h : w.heap[b]? = some (.cells #[x0, x1, x2, x3, x4, x5, x6] t (0, 0))) :
    ∃ W3, W3 = (((((((w.setCell ⟨b, 0, none⟩ u0).setCell ⟨b, 1, none⟩ u1).setCell ⟨b, 2, none⟩ u2).setCell ⟨b, 3, none⟩ u3).setCell ⟨b, 4, none⟩ u4).setCell ⟨b, 5, none⟩ u5).setCell ⟨b, 6, none⟩ u6).drew ∧ (∀ k, k ≠ b → W3.heap[k]? = w.heap[k]?) ∧ W3.heap[b]? = some (.cells #[u0, u1, u2, u3, u4, u5, u6] t (0, 0)) ∧ ∀ B a, Below B a w → B ≤ b → Below B a W3 := by
  refine ⟨_, rfl, fun k hk => ?_, ?_, fun B a hb hB => ?_⟩
  · rw [drew_heap]; exact set7_ne u0 u1 u2 u3 u4 u5 u6 hk
  · rw [drew_heap]; exact set7_at u0 u1 u2 u3 u4 u5 u6 h
  · exact Below.drew (set7_below u0 u1 u2 u3 u4 u5 u6 hb hB)

theorem odd_small {x : Ix} (ha : x.args.length ≤ 20) (hf : x.frm.length ≤ 20) : Small (chQ x 1 0) := by
  refine ⟨by simp [chQ], by simp [chQ], by simp [chQ], by simp [chQ], by simp [chQ, manyB], ?_⟩
  intro f hf' b hb y hy
  simp only [chQ, List.mem_singleton] at hf'
  subst hf'
  simp only [List.mem_cons, List.not_mem_nil, or_false] at hb
  rcases hb with rfl | rfl
  · rw [List.mem_singleton.1 hy]; exact ⟨by decide, by decide⟩
  · rw [List.mem_singleton.1 hy]; exact ⟨ha, hf⟩
theorem odd_ok {x : Ix} (h0 : 0 ≤ x.op) (h1 : x.op ≤ 255) : POk (chQ x 1 0) := by
  intro f hf' b hb
  simp only [chQ, List.mem_singleton] at hf'
  subst hf'
  simp only [List.mem_cons, List.not_mem_nil, or_false] at hb
  rcases hb with rfl | rfl
  · exact ⟨by decide, fun y hy => by rw [List.mem_singleton.1 hy]; exact ⟨by decide, by decide⟩⟩
  · exact ⟨by simp, fun y hy => by rw [List.mem_singleton.1 hy]; exact ⟨h0, h1⟩⟩

set_option maxRecDepth 100000 in
set_option maxHeartbeats 8000000 in
theorem odd_calls (x : Ix) (va vf : Value) (w : World) (ht : Tab w) (ha : IntsAt w va x.args) (hf : IntsAt w vf x.frm) (h0 : 0 ≤ x.op) (h1 : x.op ≤ 255) (hal : x.args.length ≤ 20) (hfl : x.frm.length ≤ 20) :
    Calls Tryd.prog 8 #[ixV x va vf] w (BoolR (chkP (chQ x 1 0) == 60) w) := by
  have HCH := hid chapter_calls
  have HSM := hid (odd_small hal hfl)
  have HOK := hid (odd_ok h0 h1)
  have HA := hid ha
  have HF := hid hf
  have HT := hid ht
  obtain ⟨aa, ac, rfl, _⟩ := ints_slice ha
  obtain ⟨fa, fc, rfl, _⟩ := ints_slice hf
  clear ha hf ht h0 h1
  obtain ⟨W, hW⟩ : ∃ W, W = w.alloc (.cells #[.int .u8 x.op, .int .i64 x.typ, .int .i64 x.a, .int .i64 x.b, .int .i64 x.n, .slice aa x.args.length ac, .slice fa x.frm.length fc] 25) := ⟨_, rfl⟩
  have HW := hid hW
  have HBW : Hid (Below w.heap.size w W) := by show Below _ _ _; rw [hW]; exact alloc_below _ _
  have k0 : W.heap[w.heap.size]? = some (.cells #[.int .u8 x.op, .int .i64 x.typ, .int .i64 x.a, .int .i64 x.b, .int .i64 x.n, .slice aa x.args.length ac, .slice fa x.frm.length fc] 25 (0, 0)) := by rw [hW]; exact alloc_new _ _
  have HK0 := hid k0
  clear hW k0
  go_enter Tryd.func8, Tryd.ntmps8
  go_wp2_with fail
  rw [← HW.out]
  refine (HCH.out W).mono ?_
  rintro e w1 ⟨rfl, hw1⟩
  obtain ⟨W2, hW2⟩ : ∃ W2, W2 = w1.alloc (.cells #[.slice (some ⟨W.heap.size + 1 + 1 + 1 + 1 + 1, 0, none⟩) 2 2, .slice (some ⟨W.heap.size + 1 + 1 + 1 + 1 + 1 + 1 + 1, 0, none⟩) 1 1] 29) := ⟨_, rfl⟩
  have hb1 : Below W.heap.size W w1 := by rw [hw1]; exact chW_below _ _
  have hb2 : Below w1.heap.size w1 W2 := by rw [hW2]; exact alloc_below _ _
  have kb : W2.heap[w1.heap.size]? = some (.cells #[.slice (some ⟨W.heap.size + 1 + 1 + 1 + 1 + 1, 0, none⟩) 2 2, .slice (some ⟨W.heap.size + 1 + 1 + 1 + 1 + 1 + 1 + 1, 0, none⟩) 1 1] 29 (0, 0)) := by rw [hW2]; exact alloc_new _ _
  have k1 := (hb2.block (W.heap.size + 1) (by rw [hw1, chW_size]; omega)).trans ((congrArg (fun wx : World => wx.heap[W.heap.size + 1]?) hw1).trans (ShX.h1 W chC))
  have k3 := (hb2.block (W.heap.size + 1 + 1 + 1) (by rw [hw1, chW_size]; omega)).trans ((congrArg (fun wx : World => wx.heap[W.heap.size + 1 + 1 + 1]?) hw1).trans (ShX.h3 W chC))
  have k5 := (hb2.block (W.heap.size + 1 + 1 + 1 + 1 + 1) (by rw [hw1, chW_size]; omega)).trans ((congrArg (fun wx : World => wx.heap[W.heap.size + 1 + 1 + 1 + 1 + 1]?) hw1).trans (ShX.h5 W chC))
  have k6 := (hb2.block (W.heap.size + 1 + 1 + 1 + 1 + 1 + 1) (by rw [hw1, chW_size]; omega)).trans ((congrArg (fun wx : World => wx.heap[W.heap.size + 1 + 1 + 1 + 1 + 1 + 1]?) hw1).trans (ShX.h6 W chC))
  have k7 := (hb2.block (W.heap.size + 1 + 1 + 1 + 1 + 1 + 1 + 1) (by rw [hw1, chW_size]; omega)).trans ((congrArg (fun wx : World => wx.heap[W.heap.size + 1 + 1 + 1 + 1 + 1 + 1 + 1]?) hw1).trans (ShX.h7 W chC))
  have hs1 : w1.heap.size = W.heap.size + 1 + 1 + 1 + 1 + 1 + 1 + 1 + 1 := by rw [hw1, chW_size]
  have hb3 : Below W.heap.size W W2 := hb1.trans (hb2.mono (by omega))
  have kx := (hb3.block w.heap.size (lt_of HK0.out)).trans HK0.out
  have HW2 := hid hW2
  clear hw1 hb1 hb2 hW2 HCH
  have HB3 := hid hb3
  have HS1 := hid hs1
  have HKB := hid kb; have HK1 := hid k1; have HK3 := hid k3; have HK5 := hid k5; have HK6 := hid k6; have HK7 := hid k7
  clear hb3 hs1
  go_upto_region 2 with fail
  rw [← HW2.out]
  have b0 : ∀ w', Aft W2 w' → w'.cell? ⟨w1.heap.size, 0, none⟩ = some (.slice (some ⟨W.heap.size + 1 + 1 + 1 + 1 + 1, 0, none⟩) 2 2) := later_cells HKB.out 0 _ rfl
  have b1 : ∀ w', Aft W2 w' → w'.cell? ⟨w1.heap.size, 1, none⟩ = some (.slice (some ⟨W.heap.size + 1 + 1 + 1 + 1 + 1 + 1 + 1, 0, none⟩) 1 1) := later_cells HKB.out 1 _ rfl
  have c7 : ∀ w', Aft W2 w' → w'.cell? ⟨W.heap.size + 1 + 1 + 1 + 1 + 1 + 1 + 1, 1, none⟩ = some (.slice (some ⟨W.heap.size + 1 + 1 + 1 + 1 + 1 + 1, 0, none⟩) 2 2) := later_cells HK7.out 1 _ rfl
  have c6 : ∀ w', Aft W2 w' → w'.cell? ⟨W.heap.size + 1 + 1 + 1 + 1 + 1 + 1, 5, none⟩ = some (.slice (some ⟨W.heap.size + 1 + 1 + 1, 0, none⟩) 1 1) := later_cells HK6.out 5 _ rfl
  have x0 : ∀ w', Aft W2 w' → w'.cell? ⟨w.heap.size, 0, none⟩ = some (.int .u8 x.op) := later_cells kx 0 _ rfl
  have x1 : ∀ w', Aft W2 w' → w'.cell? ⟨w.heap.size, 1, none⟩ = some (.int .i64 x.typ) := later_cells kx 1 _ rfl
  have x2 : ∀ w', Aft W2 w' → w'.cell? ⟨w.heap.size, 2, none⟩ = some (.int .i64 x.a) := later_cells kx 2 _ rfl
  have x3 : ∀ w', Aft W2 w' → w'.cell? ⟨w.heap.size, 3, none⟩ = some (.int .i64 x.b) := later_cells kx 3 _ rfl
  have x4 : ∀ w', Aft W2 w' → w'.cell? ⟨w.heap.size, 4, none⟩ = some (.int .i64 x.n) := later_cells kx 4 _ rfl
  have x5 : ∀ w', Aft W2 w' → w'.cell? ⟨w.heap.size, 5, none⟩ = some (.slice aa x.args.length ac) := later_cells kx 5 _ rfl
  have x6 : ∀ w', Aft W2 w' → w'.cell? ⟨w.heap.size, 6, none⟩ = some (.slice fa x.frm.length fc) := later_cells kx 6 _ rfl
  have HHW := hid (Aft.refl W2).drew
  have z3 : ∀ i, W2.drew.frozen? ⟨W.heap.size + 1 + 1 + 1, i, none⟩ = false := (cells_heap (w := W2.drew) HK3.out).2
  clear kb k1 k3 k5 k6 k7 kx
  refine wp_region_noPanic ?_
  refine wp_region_Z (S := (fun w' => Aft W2 w')) (Z := [10]) (by kernel_rfl) ?_ (fun hHeld => ?_)
  · (try dsimp only)
    (exact HHW.out)
  refine wpAnyZ_takeP (i := 0) (oi := { dst := some 5, op := Go.Op.fieldAddr 29 (Go.Operand.tmp 3) 1, type := 0, pos := "outright.go:28", after := #[], guard := none }) (v := ?_) rfl (by kernel_rfl) (by kernel_rfl) (by kernel_rfl) (by kernel_rfl) (fun _ _ _ h => h) (Or.inl ⟨by rfl, ?_⟩) (fun _ => by assumption) ?_
  rotate_left
  · intro w hSw; (try dsimp only at hSw); go_simp; all_goals (try with_reducible rfl)
  try simp only [Act.put, List.setIfInBounds_toArray, List.set_cons_zero, List.set_cons_succ]
  refine wpAnyZ_take (i := 1) (oi := { dst := some 6, op := Go.Op.load 27 (Go.Operand.tmp 5), type := 27, pos := "outright.go:28", after := #[{ on := 0, ground := Go.Ground.data }], guard := none }) (v := ?_) rfl (by kernel_rfl) (by kernel_rfl) (by kernel_rfl) (by kernel_rfl) (by kernel_rfl) (fun _ _ _ h => h) (Or.inl ⟨by rfl, ?_⟩) (by assumption) ?_
  rotate_left
  · intro w hSw; (try dsimp only at hSw); go_simp; all_goals (try with_reducible rfl)
  try simp only [Act.put, List.setIfInBounds_toArray, List.set_cons_zero, List.set_cons_succ]
  refine wpAnyZ_takeP (i := 2) (oi := { dst := some 7, op := Go.Op.indexAddr 27 (Go.Operand.tmp 6) (Go.Operand.const (Go.Value.int Go.IntKind.i64 0)), type := 0, pos := "outright.go:28", after := #[{ on := 1, ground := Go.Ground.data }], guard := none }) (v := ?_) rfl (by kernel_rfl) (by kernel_rfl) (by kernel_rfl) (by kernel_rfl) (fun _ _ _ h => h) (Or.inl ⟨by rfl, ?_⟩) (fun _ => by assumption) ?_
  rotate_left
  · intro w hSw; (try dsimp only at hSw); go_simp; all_goals (try with_reducible rfl)
  try simp only [Act.put, List.setIfInBounds_toArray, List.set_cons_zero, List.set_cons_succ]
  refine wpAnyZ_takeP (i := 3) (oi := { dst := some 8, op := Go.Op.fieldAddr 33 (Go.Operand.tmp 7) 1, type := 0, pos := "outright.go:28", after := #[{ on := 2, ground := Go.Ground.data }], guard := none }) (v := ?_) rfl (by kernel_rfl) (by kernel_rfl) (by kernel_rfl) (by kernel_rfl) (fun _ _ _ h => h) (Or.inl ⟨by rfl, ?_⟩) (fun _ => by assumption) ?_
  rotate_left
  · intro w hSw; (try dsimp only at hSw); go_simp; all_goals (try with_reducible rfl)
  try simp only [Act.put, List.setIfInBounds_toArray, List.set_cons_zero, List.set_cons_succ]
  refine wpAnyZ_take (i := 4) (oi := { dst := some 9, op := Go.Op.load 31 (Go.Operand.tmp 8), type := 31, pos := "outright.go:28", after := #[{ on := 3, ground := Go.Ground.data }], guard := none }) (v := ?_) rfl (by kernel_rfl) (by kernel_rfl) (by kernel_rfl) (by kernel_rfl) (by kernel_rfl) (fun _ _ _ h => h) (Or.inl ⟨by rfl, ?_⟩) (by assumption) ?_
  rotate_left
  · intro w hSw; (try dsimp only at hSw); go_simp; all_goals (try with_reducible rfl)
  try simp only [Act.put, List.setIfInBounds_toArray, List.set_cons_zero, List.set_cons_succ]
  refine wpAnyZ_takeP (i := 5) (oi := { dst := some 10, op := Go.Op.indexAddr 31 (Go.Operand.tmp 9) (Go.Operand.const (Go.Value.int Go.IntKind.i64 1)), type := 0, pos := "outright.go:28", after := #[{ on := 4, ground := Go.Ground.data }], guard := none }) (v := ?_) rfl (by kernel_rfl) (by kernel_rfl) (by kernel_rfl) (by kernel_rfl) (fun _ _ _ h => h) (Or.inl ⟨by rfl, ?_⟩) (fun _ => by assumption) ?_
  rotate_left
  · intro w hSw; (try dsimp only at hSw); go_simp; all_goals (try with_reducible rfl)
  try simp only [Act.put, List.setIfInBounds_toArray, List.set_cons_zero, List.set_cons_succ]
  refine wpAnyZ_takeP (i := 6) (oi := { dst := some 11, op := Go.Op.fieldAddr 38 (Go.Operand.tmp 10) 0, type := 0, pos := "outright.go:28", after := #[{ on := 5, ground := Go.Ground.data }], guard := none }) (v := ?_) rfl (by kernel_rfl) (by kernel_rfl) (by kernel_rfl) (by kernel_rfl) (fun _ _ _ h => h) (Or.inl ⟨by rfl, ?_⟩) (fun _ => by assumption) ?_
  rotate_left
  · intro w hSw; (try dsimp only at hSw); go_simp; all_goals (try with_reducible rfl)
  try simp only [Act.put, List.setIfInBounds_toArray, List.set_cons_zero, List.set_cons_succ]
  refine wpAnyZ_take (i := 7) (oi := { dst := some 12, op := Go.Op.load 36 (Go.Operand.tmp 11), type := 36, pos := "outright.go:28", after := #[{ on := 6, ground := Go.Ground.data }], guard := none }) (v := ?_) rfl (by kernel_rfl) (by kernel_rfl) (by kernel_rfl) (by kernel_rfl) (by kernel_rfl) (fun _ _ _ h => h) (Or.inl ⟨by rfl, ?_⟩) (by assumption) ?_
  rotate_left
  · intro w hSw; (try dsimp only at hSw); go_simp; all_goals (try with_reducible rfl)
  try simp only [Act.put, List.setIfInBounds_toArray, List.set_cons_zero, List.set_cons_succ]
  refine wpAnyZ_take (i := 8) (oi := { dst := some 13, op := Go.Op.load 25 (Go.Operand.tmp 1), type := 25, pos := "outright.go:28", after := #[], guard := none }) (v := ?_) rfl (by kernel_rfl) (by kernel_rfl) (by kernel_rfl) (by kernel_rfl) (by kernel_rfl) (fun _ _ _ h => h) (Or.inl ⟨by rfl, ?_⟩) (by assumption) ?_
  rotate_left
  · intro w hSw; (try dsimp only at hSw); go_simp; all_goals (try with_reducible rfl)
  try simp only [Act.put, List.setIfInBounds_toArray, List.set_cons_zero, List.set_cons_succ]
  refine wpAnyZ_takeP (i := 9) (oi := { dst := some 14, op := Go.Op.indexAddr 36 (Go.Operand.tmp 12) (Go.Operand.const (Go.Value.int Go.IntKind.i64 0)), type := 0, pos := "outright.go:28", after := #[{ on := 7, ground := Go.Ground.data }, { on := 0, ground := Go.Ground.phase }, { on := 1, ground := Go.Ground.phase }, { on := 2, ground := Go.Ground.phase }, { on := 3, ground := Go.Ground.phase }, { on := 4, ground := Go.Ground.phase }, { on := 5, ground := Go.Ground.phase }, { on := 6, ground := Go.Ground.phase }, { on := 7, ground := Go.Ground.phase }, { on := 8, ground := Go.Ground.phase }], guard := none }) (v := ?_) rfl (by kernel_rfl) (by kernel_rfl) (by kernel_rfl) (by kernel_rfl) (fun _ _ _ h => h) (Or.inl ⟨by rfl, ?_⟩) (fun _ => by assumption) ?_
  rotate_left
  · intro w hSw; (try dsimp only at hSw); go_simp; all_goals (try with_reducible rfl)
  try simp only [Act.put, List.setIfInBounds_toArray, List.set_cons_zero, List.set_cons_succ]
  refine wpAnyZ_ready (rs := [10]) (by kernel_rfl) (by simp) ?_
  refine AllReadyZ.last (o := { dst := none, op := Go.Op.store 25 (Go.Operand.tmp 14) (Go.Operand.tmp 13), type := 0, pos := "outright.go:28", after := #[{ on := 9, ground := Go.Ground.data }, { on := 8, ground := Go.Ground.data }, { on := 0, ground := Go.Ground.phase }, { on := 1, ground := Go.Ground.phase }, { on := 2, ground := Go.Ground.phase }, { on := 3, ground := Go.Ground.phase }, { on := 4, ground := Go.Ground.phase }, { on := 5, ground := Go.Ground.phase }, { on := 6, ground := Go.Ground.phase }, { on := 7, ground := Go.Ground.phase }, { on := 8, ground := Go.Ground.phase }], guard := none }) rfl (by kernel_rfl) (fun K hK => ?_) ?_
  · skip
    have y0 := z3 0
    have v0 : W2.frozen? ⟨W.heap.size + 1 + 1 + 1, 0, none⟩ = false := z3 0
    have d0 : W2.cell? ⟨W.heap.size + 1 + 1 + 1, 0, none⟩ = some _ := cells_of HK3.out 0 _ rfl
    have y1 := z3 1
    have v1 : W2.frozen? ⟨W.heap.size + 1 + 1 + 1, 1, none⟩ = false := z3 1
    have d1 : W2.cell? ⟨W.heap.size + 1 + 1 + 1, 1, none⟩ = some _ := cells_of HK3.out 1 _ rfl
    have y2 := z3 2
    have v2 : W2.frozen? ⟨W.heap.size + 1 + 1 + 1, 2, none⟩ = false := z3 2
    have d2 : W2.cell? ⟨W.heap.size + 1 + 1 + 1, 2, none⟩ = some _ := cells_of HK3.out 2 _ rfl
    have y3 := z3 3
    have v3 : W2.frozen? ⟨W.heap.size + 1 + 1 + 1, 3, none⟩ = false := z3 3
    have d3 : W2.cell? ⟨W.heap.size + 1 + 1 + 1, 3, none⟩ = some _ := cells_of HK3.out 3 _ rfl
    have y4 := z3 4
    have v4 : W2.frozen? ⟨W.heap.size + 1 + 1 + 1, 4, none⟩ = false := z3 4
    have d4 : W2.cell? ⟨W.heap.size + 1 + 1 + 1, 4, none⟩ = some _ := cells_of HK3.out 4 _ rfl
    have y5 := z3 5
    have v5 : W2.frozen? ⟨W.heap.size + 1 + 1 + 1, 5, none⟩ = false := z3 5
    have d5 : W2.cell? ⟨W.heap.size + 1 + 1 + 1, 5, none⟩ = some _ := cells_of HK3.out 5 _ rfl
    have y6 := z3 6
    have v6 : W2.frozen? ⟨W.heap.size + 1 + 1 + 1, 6, none⟩ = false := z3 6
    have d6 : W2.cell? ⟨W.heap.size + 1 + 1 + 1, 6, none⟩ = some _ := cells_of HK3.out 6 _ rfl
    have e0 : W2.drew.cell? ⟨W.heap.size + 1 + 1 + 1, 0, none⟩ = some _ := cells_of (W := W2.drew) HK3.out 0 _ rfl
    have e1 : W2.drew.cell? ⟨W.heap.size + 1 + 1 + 1, 1, none⟩ = some _ := cells_of (W := W2.drew) HK3.out 1 _ rfl
    have e2 : W2.drew.cell? ⟨W.heap.size + 1 + 1 + 1, 2, none⟩ = some _ := cells_of (W := W2.drew) HK3.out 2 _ rfl
    have e3 : W2.drew.cell? ⟨W.heap.size + 1 + 1 + 1, 3, none⟩ = some _ := cells_of (W := W2.drew) HK3.out 3 _ rfl
    have e4 : W2.drew.cell? ⟨W.heap.size + 1 + 1 + 1, 4, none⟩ = some _ := cells_of (W := W2.drew) HK3.out 4 _ rfl
    have e5 : W2.drew.cell? ⟨W.heap.size + 1 + 1 + 1, 5, none⟩ = some _ := cells_of (W := W2.drew) HK3.out 5 _ rfl
    have e6 : W2.drew.cell? ⟨W.heap.size + 1 + 1 + 1, 6, none⟩ = some _ := cells_of (W := W2.drew) HK3.out 6 _ rfl
    go_simp
    refine hK.out _ _ ?_
    clear hK K
    try simp only [Act.put, List.setIfInBounds_toArray, List.set_cons_zero, List.set_cons_succ]
    refine wpAnyZ_done (by kernel_rfl) ?_ _
    refine NoPanic.normal ?_
    obtain ⟨W3, hW3, hne, hk3, hbl⟩ := set7_world W2 (W.heap.size + 1 + 1 + 1) 25 _ _ _ _ _ _ _ (.int .u8 x.op) (.int .i64 x.typ) (.int .i64 x.a) (.int .i64 x.b) (.int .i64 x.n) (.slice aa x.args.length ac) (.slice fa x.frm.length fc) HK3.out
    rw [← hW3]
    have HW4 := hid hne
    have hb5 : Below w.heap.size w W3 := hbl _ _ (HBW.out.trans (HB3.out.mono HBW.out.size)) (by have := HBW.out.size; omega)
    have hkb := (HW4.out w1.heap.size (by have := HS1.out; omega)).trans HKB.out
    have hp : PrAt W3 (.agg #[.slice (some ⟨W.heap.size + 1 + 1 + 1 + 1 + 1, 0, none⟩) 2 2, .slice (some ⟨W.heap.size + 1 + 1 + 1 + 1 + 1 + 1 + 1, 0, none⟩) 1 1]) (chQ x 1 0) :=
      prog_at ((HW4.out _ (by omega)).trans HK1.out) hk3 ((HW4.out _ (by omega)).trans HK5.out) ((HW4.out _ (by omega)).trans HK6.out) ((HW4.out _ (by omega)).trans HK7.out) (HA.out.below hb5) (HF.out.below hb5)
    have HCK := hid (ShI.check_calls (chQ x 1 0) _ W3 hp (HT.out.on hb5) HSM.out HOK.out)
    have p0 := cells_of hkb 0 _ rfl
    have p1 := cells_of hkb 1 _ rfl
    have HB5 := hid hb5
    clear v0 v1 v2 v3 v4 v5 v6 d0 d1 d2 d3 d4 d5 d6 y0 y1 y2 y3 y4 y5 y6 e0 e1 e2 e3 e4 e5 e6 hW3 hne hbl hk3 hb5 hkb hp HW4 b0 b1 c7 c6 x0 x1 x2 x3 x4 x5 x6 HHW z3
    generalize chkP (chQ x 1 0) = ck at *
    go_wp2_with fail
    refine HCK.out.mono ?_
    rintro e w5 ⟨rfl, hb6⟩
    have hbe := HB5.out.trans (hb6.mono HB5.out.size)
    clear hb6 HCK
    go_wp2
    go_ret
    exact ⟨rfl, hbe⟩
  exact AllReadyZ.nil
end Go.Proofs.YtaegidmodenomaaDoor.ShXO
