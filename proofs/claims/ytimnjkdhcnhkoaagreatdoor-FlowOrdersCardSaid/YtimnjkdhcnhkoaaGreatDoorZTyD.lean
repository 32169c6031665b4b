/- Walks over types.may. -/
import Derived.Test.YtimnjkdhcnhkoaaGreatDoorZTyBToShP
namespace Go.Proofs.YtimnjkdhcnhkoaaGreatDoor.TyD
open Go.RowKit Go.Lib SetP IntO TyM TyP TyB TyC

theorem ret_bool {a b : Bool} (h : a = b) : Ending.returned (.bool a) = .returned (.bool b) := by rw [h]
theorem low_one {m n : Int} : lowB m [n] = decide (0 ≤ n ∧ n < m) := by simp [lowB]
theorem plains_one {t : List Ty} {n : Int} : plainsB t [n] = plainB t n := by simp [plainsB]
theorem alloc_new (w : World) (o : Obj) : (w.alloc o).heap[w.heap.size]? = some o := by
  show (w.heap.push o)[w.heap.size]? = some o
  simp
theorem alloc_old {w : World} {b : Nat} {o : Obj} (h : w.heap[b]? = some o) (o' : Obj) : (w.alloc o').heap[b]? = some o :=
  (Below.heap_alloc _ _ _ (Array.getElem?_eq_some_iff.1 h).1).trans h
theorem set_copy {w w1 : World} {i : Nat} {v : Value} (h : Below w.heap.size w w1) : Below w.heap.size w (w1.setCell ⟨w.heap.size, i, none⟩ v) := h.setCell (Nat.le_refl _) _
theorem set_heap {w : World} {b i : Nat} {cs : Array Value} {t : TypeId} (u : Value) (h : w.heap[b]? = some (.cells cs t (0, 0))) : (w.setCell ⟨b, i, none⟩ u).heap[b]? = some (.cells (cs.setIfInBounds i u) t (0, 0)) := by
  obtain ⟨hlt, hk⟩ := Array.getElem?_eq_some_iff.1 h
  show (w.heap.modify b _)[b]? = _
  rw [Array.getElem?_eq_getElem (by rw [Array.size_modify]; exact hlt), Array.getElem_modify_self, hk]
  rfl
theorem size_set (w : World) (a : Addr) (v : Value) : (w.setCell a v).heap.size = w.heap.size := by simp [World.setCell]
theorem cell_new (w : World) (v : Value) (t : TypeId) (n : Nat) (h : w.heap.size = n) : (w.alloc (.cells #[v] t)).cell? ⟨n, 0, none⟩ = some v := by subst h; simp
theorem size_new (w : World) (o : Obj) (n : Nat) (h : w.heap.size = n) : n < (w.alloc o).heap.size := by subst h; simp
/-- what is known of a copy behind a call -/
theorem copy_facts {W w1 : World} {b : Nat} {cs : Array Value} (hw : W.heap[b]? = some (.cells cs 61 (0, 0))) (hb : Below W.heap.size W w1) :
    (∀ i (h : i < cs.size), w1.cell? ⟨b, i, none⟩ = some cs[i]) ∧ (∀ i, w1.frozen? ⟨b, i, none⟩ = false) ∧ b < w1.heap.size ∧ w1.heap[b]? = some (.cells cs 61 (0, 0)) := by
  have hlt := (Array.getElem?_eq_some_iff.1 hw).1
  have hk := (hb.block b hlt).trans hw
  refine ⟨fun i h => ?_, fun i => ?_, Nat.lt_of_lt_of_le hlt hb.size, hk⟩
  · unfold World.cell?; rw [hk]; simp [h]
  · unfold World.frozen?; rw [hk]; simp

set_option maxHeartbeats 1000000 in
theorem may_int (t : List Ty) (v : Value) (k : Nat) (x : Ty) (w : World) (ht : TysAt w v t) (hx : t[k]? = some x) (hkd : x.kind = 1) :
    Calls Tryz.prog 72 #[v, .int .i64 k] w (BoolR (mayX t k x) w) := by
  obtain ⟨hk, rfl⟩ := List.getElem?_eq_some_iff.1 hx
  obtain ⟨ao, cap, rfl⟩ := ht.slice
  have HT := hid ht
  obtain ⟨tb, off, rfl, hlt, pv, c0, c1, c2, c3, hp⟩ := ht.at k hk
  rw [hkd] at c0
  have HM : Hid (mayX t k t[k] = (decide (t[k].elem = 0) && (decide (t[k].many = 0) && decide (t[k].parts.length = 0)))) := by
    show _ = _
    unfold mayX; rw [if_pos hkd]
  rw [HM.out]
  clear HM
  have HP := hid hp
  obtain ⟨pa, pc, rfl, hpl⟩ := ints_slice hp
  clear ht hp hx hkd HT HP
  generalize t[k] = y at *
  obtain ⟨yk, ye, ym, yp⟩ := y
  simp only at *
  generalize t.length = n at *
  generalize yp.length = pn at *
  have hb0 : Below w.heap.size w (w.alloc (.cells #[.int .u8 1, .int .i64 ye, .int .i64 ym, .slice pa pn pc] 61)) := (Below.refl _ _).alloc (Nat.le_refl _) _
  go_enter Tryz.func72, Tryz.ntmps72
  go_wp2
  all_goals
    go_ret
    refine ⟨ret_bool ?_, ?_⟩
    · first | rfl | (rw [Bool.eq_iff_iff]; simp; omega) | (simp [*]; done)
    · first | assumption | exact (Below.refl _ _).alloc (Nat.le_refl _) _ | exact set_copy (by assumption) | exact set_copy (set_copy (by assumption))

set_option maxHeartbeats 1000000 in
theorem may_ptr (t : List Ty) (v : Value) (k : Nat) (x : Ty) (w : World) (ht : TysAt w v t) (hx : t[k]? = some x) (hkd : x.kind = 2) :
    Calls Tryz.prog 72 #[v, .int .i64 k] w (BoolR (mayX t k x) w) := by
  obtain ⟨hk, rfl⟩ := List.getElem?_eq_some_iff.1 hx
  obtain ⟨ao, cap, rfl⟩ := ht.slice
  have HT := hid ht
  obtain ⟨tb, off, rfl, hlt, pv, c0, c1, c2, c3, hp⟩ := ht.at k hk
  rw [hkd] at c0
  have HM : Hid (mayX t k t[k] = (lowB t.length [t[k].elem] && (decide (t[k].many = 0) && decide (t[k].parts.length = 0)))) := by
    show _ = _
    unfold mayX; rw [if_neg (by omega), if_pos hkd]
  rw [HM.out]
  clear HM
  have HP := hid hp
  obtain ⟨pa, pc, rfl, hpl⟩ := ints_slice hp
  have HB := hid (fun wx b (h : wx.cell? ⟨b, 0, none⟩ = some (.int .i64 t[k].elem)) hb => below_calls t.length (.slice (some ⟨b, 0, none⟩) 1 1) [t[k].elem] wx (ints_one h hb))
  generalize lowB t.length [t[k].elem] = lb at *
  clear ht hp hx hkd HT HP
  generalize t[k] = y at *
  obtain ⟨yk, ye, ym, yp⟩ := y
  simp only at *
  generalize t.length = n at *
  generalize yp.length = pn at *
  have hb0 : Below w.heap.size w ((w.alloc (.cells #[.int .u8 2, .int .i64 ye, .int .i64 ym, .slice pa pn pc] 61)).alloc (.cells #[.int .i64 ye] 3)) := ((Below.refl _ _).alloc (Nat.le_refl _) _).alloc (by simp) _
  have HC := hid (HB.out ((w.alloc (.cells #[.int .u8 2, .int .i64 ye, .int .i64 ym, .slice pa pn pc] 61)).alloc (.cells #[.int .i64 ye] 3)) (w.heap.size + 1) (by simp) (by simp))
  have HK : Hid (((w.alloc (.cells #[.int .u8 2, .int .i64 ye, .int .i64 ym, .slice pa pn pc] 61)).alloc (.cells #[.int .i64 ye] 3)).heap[w.heap.size]? = some (.cells #[.int .u8 2, .int .i64 ye, .int .i64 ym, .slice pa pn pc] 61 (0, 0))) := hid <| alloc_old (alloc_new _ _) _
  clear HB
  cases lb <;>
  · go_enter Tryz.func72, Tryz.ntmps72
    go_wp2_with (go_at_call 85; refine HC.out.mono ?_; rintro e w1 ⟨rfl, hb1⟩; have hbe := hb0.trans (hb1.mono hb0.size); obtain ⟨cf, fz, hsz, _⟩ := copy_facts HK.out hb1; have d1 := cf 1 (by simp); have d2 := cf 2 (by simp); have d3 := cf 3 (by simp); have z1 := fz 1; simp only [List.getElem_toArray, List.getElem_cons_succ, List.getElem_cons_zero] at d1 d2 d3; clear hb1 cf fz)
    all_goals
      go_ret
      refine ⟨ret_bool ?_, ?_⟩
      · first | rfl | (rw [Bool.eq_iff_iff]; simp; omega) | (simp [*]; done)
      · first | assumption | exact (Below.refl _ _).alloc (Nat.le_refl _) _ | exact set_copy (by assumption) | exact set_copy (set_copy (by assumption))
set_option maxHeartbeats 1000000 in
theorem may_fn (t : List Ty) (v : Value) (k : Nat) (x : Ty) (w : World) (ht : TysAt w v t) (hx : t[k]? = some x) (hkd : x.kind = 3) :
    Calls Tryz.prog 72 #[v, .int .i64 k] w (BoolR (mayX t k x) w) := by
  obtain ⟨hk, rfl⟩ := List.getElem?_eq_some_iff.1 hx
  obtain ⟨ao, cap, rfl⟩ := ht.slice
  have HT := hid ht
  obtain ⟨tb, off, rfl, hlt, pv, c0, c1, c2, c3, hp⟩ := ht.at k hk
  rw [hkd] at c0
  have HM : Hid (mayX t k t[k] = (decide (t[k].parts.length ≤ 4) && (plainB t t[k].elem && (plainsB t t[k].parts && decide (t[k].many = 0))))) := by
    show _ = _
    unfold mayX; rw [if_neg (by omega), if_neg (by omega), if_pos hkd]
  rw [HM.out]
  clear HM
  have HP := hid hp
  obtain ⟨pa, pc, rfl, hpl⟩ := ints_slice hp
  rw [← plains_one]
  have HA := hid (fun wx b (hw : Below w.heap.size w wx) (h : wx.cell? ⟨b, 0, none⟩ = some (.int .i64 t[k].elem)) hb => scalars_calls t _ (.slice (some ⟨b, 0, none⟩) 1 1) [t[k].elem] wx (HT.out.below hw) (ints_one h hb))
  have HB := hid (fun wx (hw : Below w.heap.size w wx) => scalars_calls t _ _ t[k].parts wx (HT.out.below hw) (HP.out.below hw))
  generalize plainsB t [t[k].elem] = la at *
  generalize plainsB t t[k].parts = lb at *
  clear ht hp hx hkd HT HP
  generalize t[k] = y at *
  obtain ⟨yk, ye, ym, yp⟩ := y
  simp only at *
  generalize t.length = n at *
  generalize yp.length = pn at *
  have hb0 : Below w.heap.size w ((w.alloc (.cells #[.int .u8 3, .int .i64 ye, .int .i64 ym, .slice pa pn pc] 61)).alloc (.cells #[.int .i64 ye] 3)) := ((Below.refl _ _).alloc (Nat.le_refl _) _).alloc (by simp) _
  have HC := hid (HA.out ((w.alloc (.cells #[.int .u8 3, .int .i64 ye, .int .i64 ym, .slice pa pn pc] 61)).alloc (.cells #[.int .i64 ye] 3)) (w.heap.size + 1) hb0 (by simp) (by simp))
  have HK : Hid (((w.alloc (.cells #[.int .u8 3, .int .i64 ye, .int .i64 ym, .slice pa pn pc] 61)).alloc (.cells #[.int .i64 ye] 3)).heap[w.heap.size]? = some (.cells #[.int .u8 3, .int .i64 ye, .int .i64 ym, .slice pa pn pc] 61 (0, 0))) := hid <| alloc_old (alloc_new _ _) _
  clear HA
  cases la <;> cases lb <;>
  · go_enter Tryz.func72, Tryz.ntmps72
    go_wp2_with (first | (go_at_call 86; refine HC.out.mono ?_; rintro e w1 ⟨rfl, hb1⟩; have hbe := hb0.trans (hb1.mono hb0.size); obtain ⟨cf, fz, hsz, hk1⟩ := copy_facts HK.out hb1; have d1 := cf 1 (by simp); have d2 := cf 2 (by simp); have d3 := cf 3 (by simp); have z1 := fz 1; have z2 := fz 2; simp only [List.getElem_toArray, List.getElem_cons_succ, List.getElem_cons_zero] at d1 d2 d3; clear hb1 cf fz; have HK1 := hid hk1; clear hk1 HC) | (go_at_call 86; refine (HB.out _ (by assumption)).mono ?_; rintro e w2 ⟨rfl, hb1⟩; have hbe2 := hbe.trans (hb1.mono hbe.size); clear hbe d1 d2 d3 z1 z2 hsz; obtain ⟨cf, fz, hsz, _⟩ := copy_facts HK1.out hb1; have d1 := cf 1 (by simp); have d2 := cf 2 (by simp); have d3 := cf 3 (by simp); have z1 := fz 1; have z2 := fz 2; simp only [List.getElem_toArray, List.getElem_cons_succ, List.getElem_cons_zero] at d1 d2 d3; clear hb1 cf fz))
    all_goals
      go_ret
      refine ⟨ret_bool ?_, ?_⟩
      · first | rfl | (rw [Bool.eq_iff_iff]; simp; omega) | (simp [*]; done)
      · first | assumption | exact (Below.refl _ _).alloc (Nat.le_refl _) _ | exact set_copy (by assumption) | exact set_copy (set_copy (by assumption))

set_option maxHeartbeats 1000000 in
theorem may_struct (t : List Ty) (v : Value) (k : Nat) (x : Ty) (w : World) (ht : TysAt w v t) (hx : t[k]? = some x) (hkd : x.kind = 4) :
    Calls Tryz.prog 72 #[v, .int .i64 k] w (BoolR (mayX t k x) w) := by
  obtain ⟨hk, rfl⟩ := List.getElem?_eq_some_iff.1 hx
  obtain ⟨ao, cap, rfl⟩ := ht.slice
  have HT := hid ht
  obtain ⟨tb, off, rfl, hlt, pv, c0, c1, c2, c3, hp⟩ := ht.at k hk
  rw [hkd] at c0
  have HM : Hid (mayX t k t[k] = (decide (1 ≤ t[k].parts.length) && (decide (t[k].parts.length ≤ 8) && (lowB k t[k].parts && (decide (t[k].elem = 0) && decide (t[k].many = 0)))))) := by
    show _ = _
    unfold mayX; rw [if_neg (by omega), if_neg (by omega), if_neg (by omega), if_pos hkd]
  rw [HM.out]
  clear HM
  have HP := hid hp
  obtain ⟨pa, pc, rfl, hpl⟩ := ints_slice hp
  have HB := hid (fun wx (hw : Below w.heap.size w wx) => below_calls k _ t[k].parts wx (HP.out.below hw))
  generalize lowB k t[k].parts = lb at *
  clear ht hp hx hkd HT HP
  generalize t[k] = y at *
  obtain ⟨yk, ye, ym, yp⟩ := y
  simp only at *
  generalize t.length = n at *
  generalize yp.length = pn at *
  have hb0 : Below w.heap.size w (w.alloc (.cells #[.int .u8 4, .int .i64 ye, .int .i64 ym, .slice pa pn pc] 61)) := (Below.refl _ _).alloc (Nat.le_refl _) _
  have HC := hid (HB.out (w.alloc (.cells #[.int .u8 4, .int .i64 ye, .int .i64 ym, .slice pa pn pc] 61)) hb0)
  have HK : Hid ((w.alloc (.cells #[.int .u8 4, .int .i64 ye, .int .i64 ym, .slice pa pn pc] 61)).heap[w.heap.size]? = some (.cells #[.int .u8 4, .int .i64 ye, .int .i64 ym, .slice pa pn pc] 61 (0, 0))) := hid <| alloc_new _ _
  clear HB
  cases lb <;>
  · go_enter Tryz.func72, Tryz.ntmps72
    go_wp2_with (go_at_call 85; refine HC.out.mono ?_; rintro e w1 ⟨rfl, hb1⟩; have hbe := hb0.trans (hb1.mono hb0.size); obtain ⟨cf, fz, hsz, _⟩ := copy_facts HK.out hb1; have d1 := cf 1 (by simp); have d2 := cf 2 (by simp); have d3 := cf 3 (by simp); have z1 := fz 1; have z2 := fz 2; simp only [List.getElem_toArray, List.getElem_cons_succ, List.getElem_cons_zero] at d1 d2 d3; clear hb1 cf fz)
    all_goals
      go_ret
      refine ⟨ret_bool ?_, ?_⟩
      · first | rfl | (rw [Bool.eq_iff_iff]; simp; omega) | (simp [*]; done)
      · first | assumption | exact (Below.refl _ _).alloc (Nat.le_refl _) _ | exact set_copy (by assumption) | exact set_copy (set_copy (by assumption))

set_option maxHeartbeats 1000000 in
theorem may_array (t : List Ty) (v : Value) (k : Nat) (x : Ty) (w : World) (ht : TysAt w v t) (hx : t[k]? = some x) (hkd : x.kind = 5) :
    Calls Tryz.prog 72 #[v, .int .i64 k] w (BoolR (mayX t k x) w) := by
  obtain ⟨hk, rfl⟩ := List.getElem?_eq_some_iff.1 hx
  obtain ⟨ao, cap, rfl⟩ := ht.slice
  have HT := hid ht
  obtain ⟨tb, off, rfl, hlt, pv, c0, c1, c2, c3, hp⟩ := ht.at k hk
  rw [hkd] at c0
  have HM : Hid (mayX t k t[k] = (decide (1 ≤ t[k].many) && (decide (t[k].many ≤ 16) && (lowB k [t[k].elem] && decide (t[k].parts.length = 0))))) := by
    show _ = _
    unfold mayX; rw [if_neg (by omega), if_neg (by omega), if_neg (by omega), if_neg (by omega), if_pos hkd]
  rw [HM.out]
  clear HM
  have HP := hid hp
  obtain ⟨pa, pc, rfl, hpl⟩ := ints_slice hp
  have HX : Hid (lowB k [t[k].elem] = true → lowB t.length [t[k].elem] = true) := by
    intro h
    rw [low_one] at h ⊢
    have := of_decide_eq_true h
    exact decide_eq_true (by omega)
  have HA := hid (fun wx b (h : wx.cell? ⟨b, 0, none⟩ = some (.int .i64 t[k].elem)) hb => below_calls k (.slice (some ⟨b, 0, none⟩) 1 1) [t[k].elem] wx (ints_one h hb))
  have HB := hid (fun wx b (h : wx.cell? ⟨b, 0, none⟩ = some (.int .i64 t[k].elem)) hb => below_calls t.length (.slice (some ⟨b, 0, none⟩) 1 1) [t[k].elem] wx (ints_one h hb))
  generalize lowB k [t[k].elem] = la at *
  generalize lowB t.length [t[k].elem] = lb at *
  clear ht hp hx hkd HT HP
  generalize t[k] = y at *
  obtain ⟨yk, ye, ym, yp⟩ := y
  simp only at *
  generalize t.length = n at *
  generalize yp.length = pn at *
  have hb0 : Below w.heap.size w ((w.alloc (.cells #[.int .u8 5, .int .i64 ye, .int .i64 ym, .slice pa pn pc] 61)).alloc (.cells #[.int .i64 ye] 3)) := ((Below.refl _ _).alloc (Nat.le_refl _) _).alloc (by simp) _
  have HC := hid (HA.out ((w.alloc (.cells #[.int .u8 5, .int .i64 ye, .int .i64 ym, .slice pa pn pc] 61)).alloc (.cells #[.int .i64 ye] 3)) (w.heap.size + 1) (by simp) (by simp))
  have HK : Hid (((w.alloc (.cells #[.int .u8 5, .int .i64 ye, .int .i64 ym, .slice pa pn pc] 61)).alloc (.cells #[.int .i64 ye] 3)).heap[w.heap.size]? = some (.cells #[.int .u8 5, .int .i64 ye, .int .i64 ym, .slice pa pn pc] 61 (0, 0))) := hid <| alloc_old (alloc_new _ _) _
  clear HA
  cases la with
  | false =>
    clear HB HX
    go_enter Tryz.func72, Tryz.ntmps72
    go_wp2_with (go_at_call 85; refine HC.out.mono ?_; rintro e w1 ⟨rfl, hb1⟩; have hbe := hb0.trans (hb1.mono hb0.size); obtain ⟨cf, fz, hsz, hk1⟩ := copy_facts HK.out hb1; have d1 := cf 1 (by simp); have d2 := cf 2 (by simp); have d3 := cf 3 (by simp); have z1 := fz 1; have z2 := fz 2; simp only [List.getElem_toArray, List.getElem_cons_succ, List.getElem_cons_zero] at d1 d2 d3; clear hb1 cf fz; clear HC; clear hk1)
    all_goals
      go_ret
      refine ⟨ret_bool ?_, ?_⟩
      · first | rfl | (rw [Bool.eq_iff_iff]; simp; omega) | (simp [*]; done)
      · first | assumption | exact (Below.refl _ _).alloc (Nat.le_refl _) _ | exact set_copy (by assumption) | exact set_copy (set_copy (by assumption))
  | true =>
    obtain rfl := HX.out rfl
    clear HX
    by_cases hc : ym < 1
    · clear HB
      go_enter Tryz.func72, Tryz.ntmps72
      go_wp2
      all_goals
        go_ret
        refine ⟨ret_bool ?_, ?_⟩
        · first | rfl | (rw [Bool.eq_iff_iff]; simp; omega) | (simp [*]; done)
        · first | assumption | exact (Below.refl _ _).alloc (Nat.le_refl _) _ | exact set_copy (by assumption) | exact set_copy (set_copy (by assumption))
    have h1 : 1 ≤ ym := by omega
    clear hc
    by_cases hc : 1 ≤ ym ∧ 16 < ym
    · clear HB
      obtain ⟨hc1, hc2⟩ := hc
      go_enter Tryz.func72, Tryz.ntmps72
      go_wp2
      all_goals
        go_ret
        refine ⟨ret_bool ?_, ?_⟩
        · first | rfl | (rw [Bool.eq_iff_iff]; simp; omega) | (simp [*]; done)
        · first | assumption | exact (Below.refl _ _).alloc (Nat.le_refl _) _ | exact set_copy (by assumption) | exact set_copy (set_copy (by assumption))
    have h2 : ym ≤ 16 := by omega
    clear hc
    go_enter Tryz.func72, Tryz.ntmps72
    go_wp2_with fail
    any_goals (exfalso; omega)
    refine HC.out.mono ?_
    rintro e w1 ⟨rfl, hb1⟩
    have hbe := hb0.trans (hb1.mono hb0.size)
    obtain ⟨cf, fz, hsz, hk1⟩ := copy_facts HK.out hb1
    have d1 := cf 1 (by simp)
    have d2 := cf 2 (by simp)
    have d3 := cf 3 (by simp)
    have z1 := fz 1
    have z2 := fz 2
    simp only [List.getElem_toArray, List.getElem_cons_succ, List.getElem_cons_zero] at d1 d2 d3
    clear hb1 cf fz
    clear HC
    have HK1 := hid (alloc_old (set_heap (i := 2) (.int .i64 0) hk1) (.cells #[.int .i64 ye] 3))
    have HC2 := hid (HB.out ((w1.setCell ⟨w.heap.size, 2, none⟩ (.int .i64 0)).alloc (.cells #[.int .i64 ye] 3)) w1.heap.size (cell_new _ _ _ _ (size_set _ _ _)) (size_new _ _ _ (size_set _ _ _)))
    have hbx := (set_copy (i := 2) (v := .int .i64 0) hbe).alloc (by rw [size_set]; omega) (.cells #[.int .i64 ye] 3)
    clear hbe hk1 HB
    go_wp2_with fail
    refine HC2.out.mono ?_
    rintro e w2 ⟨rfl, hb1⟩
    have hbe2 := hbx.trans (hb1.mono hbx.size)
    clear hbx d1 d2 d3 z1 z2 hsz HC2
    obtain ⟨cf, fz, hsz, _⟩ := copy_facts HK1.out hb1
    have d1 := cf 1 (by simp)
    have d2 := cf 2 (by simp)
    have d3 := cf 3 (by simp)
    have z1 := fz 1
    simp at d1 d2 d3
    clear hb1 cf fz
    go_wp2
    all_goals
      go_ret
      refine ⟨ret_bool ?_, ?_⟩
      · first | rfl | (rw [Bool.eq_iff_iff]; simp; omega) | (simp [*]; done)
      · first | assumption | exact (Below.refl _ _).alloc (Nat.le_refl _) _ | exact set_copy (by assumption) | exact set_copy (set_copy (by assumption))

set_option maxHeartbeats 1000000 in
theorem may_none (t : List Ty) (v : Value) (k : Nat) (x : Ty) (w : World) (ht : TysAt w v t) (hx : t[k]? = some x) (n1 : x.kind ≠ 1) (n2 : x.kind ≠ 2) (n3 : x.kind ≠ 3) (n4 : x.kind ≠ 4) (n5 : x.kind ≠ 5) :
    Calls Tryz.prog 72 #[v, .int .i64 k] w (BoolR (mayX t k x) w) := by
  obtain ⟨hk, rfl⟩ := List.getElem?_eq_some_iff.1 hx
  obtain ⟨ao, cap, rfl⟩ := ht.slice
  obtain ⟨tb, off, rfl, hlt, pv, c0, c1, c2, c3, hp⟩ := ht.at k hk
  obtain ⟨pa, pc, rfl, hpl⟩ := ints_slice hp
  rw [show mayX t k t[k] = false by unfold mayX; rw [if_neg n1, if_neg n2, if_neg n3, if_neg n4, if_neg n5]]
  clear ht hp hx
  generalize t[k] = y at *
  obtain ⟨yk, ye, ym, yp⟩ := y
  simp only at *
  generalize t.length = n at *
  have e1 : (yk == 1) = false := by simpa using n1
  have e2 : (yk == 2) = false := by simpa using n2
  have e3 : (yk == 3) = false := by simpa using n3
  have e4 : (yk == 4) = false := by simpa using n4
  have e5 : (yk == 5) = false := by simpa using n5
  clear n1 n2 n3 n4 n5
  go_enter Tryz.func72, Tryz.ntmps72
  go_wp2
  all_goals
    go_ret
    refine ⟨ret_bool ?_, ?_⟩
    · first | rfl | (rw [Bool.eq_iff_iff]; simp; omega) | (simp [*]; done)
    · first | assumption | exact (Below.refl _ _).alloc (Nat.le_refl _) _ | exact set_copy (by assumption) | exact set_copy (set_copy (by assumption))

theorem may_calls (t : List Ty) (v : Value) (k : Nat) (x : Ty) (w : World) (ht : TysAt w v t) (hx : t[k]? = some x) :
    Calls Tryz.prog 72 #[v, .int .i64 k] w (BoolR (mayX t k x) w) := by
  by_cases h1 : x.kind = 1
  · exact may_int t v k x w ht hx h1
  by_cases h2 : x.kind = 2
  · exact may_ptr t v k x w ht hx h2
  by_cases h3 : x.kind = 3
  · exact may_fn t v k x w ht hx h3
  by_cases h4 : x.kind = 4
  · exact may_struct t v k x w ht hx h4
  by_cases h5 : x.kind = 5
  · exact may_array t v k x w ht hx h5
  exact may_none t v k x w ht hx h1 h2 h3 h4 h5
end Go.Proofs.YtimnjkdhcnhkoaaGreatDoor.TyD
