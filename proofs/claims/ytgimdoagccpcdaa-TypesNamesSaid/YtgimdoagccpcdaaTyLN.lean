/- Walk over fescuelaw03.TypesNames. -/
import Derived.Test.YtgimdoagccpcdaaTyLA
namespace Go.Proofs.Ytgimdoagccpcdaa.TyLN
open Go.RowKit Go.Lib Go.Shelf SetP IntO TyM TyP TyB TyC TyD TyE TyS TyF TyH TyK TyQ TyRE TyW TyLA

theorem tys_new (W : World) (cs : Array Value) (r : List Row) (hc : cs.toList = rowVals r) (hp : ∀ x ∈ r, IntsAt (W.alloc (.cells cs 24)) x.2 x.1.parts) (hl : r.length ≤ 100000) (n : Nat) (hn : W.heap.size = n) :
    TysAt (W.alloc (.cells cs 24)) (.slice (some ⟨n, 0, none⟩) r.length r.length) (r.map Prod.fst) := by
  subst hn
  exact tys_block (alloc_new W _) hc hp hl
theorem ints_new (W : World) (cs : Array Value) (l : List Int) (hc : cs.toList = intVals l) (hl : l.length ≤ 100000) (n : Nat) (hn : W.heap.size = n) :
    IntsAt (W.alloc (.cells cs 3)) (.slice (some ⟨n, 0, none⟩) l.length l.length) l := by
  subst hn
  exact ints_block (alloc_new W _) hc hl
theorem no_parts {W : World} {r : List Row} (h : ∀ x ∈ r, x.2 = .slice none 0 0 ∧ x.1.parts = []) : ∀ x ∈ r, IntsAt W x.2 x.1.parts := fun x hx => by
  obtain ⟨h1, h2⟩ := h x hx
  rw [h1, h2]
  exact ints_none _

theorem chk0 : chkT [⟨4, 0, 0, [0]⟩] = 30 := by decide +kernel
theorem chk1 : chkT [⟨5, 1, 1, []⟩, ⟨1, 0, 0, []⟩] = 30 := by decide +kernel
theorem chk2 : chkT [⟨2, 1, 0, []⟩] = 30 := by decide +kernel
theorem chk3 : chkT [⟨0, 0, 0, []⟩] = 30 := by decide +kernel
theorem chk4 : chkT [⟨1, 0, 0, []⟩, ⟨4, 0, 0, []⟩] = 30 := by decide +kernel
theorem chk5 : chkT [⟨1, 0, 0, []⟩, ⟨5, 0, 0, []⟩] = 30 := by decide +kernel
theorem chk6 : chkT [⟨1, 0, 0, []⟩, ⟨5, 0, 17, []⟩] = 30 := by decide +kernel
theorem chk7 : chkT [⟨1, 0, 0, []⟩, ⟨4, 0, 0, [0]⟩, ⟨3, 1, 0, []⟩] = 30 := by decide +kernel
theorem chk8 : chkT [⟨1, 0, 1, []⟩] = 30 := by decide +kernel
theorem chk9 : chkT [⟨1, 0, 0, []⟩, ⟨5, 0, 16, []⟩, ⟨5, 1, 3, []⟩] = 30 := by decide +kernel
theorem chkOk : chkT [⟨1, 0, 0, []⟩, ⟨5, 0, 16, []⟩, ⟨5, 1, 2, []⟩, ⟨3, 3, 0, [0, 3]⟩] = 0 := by decide +kernel
theorem chkMany : chkT (List.replicate 17 ⟨0, 0, 0, []⟩) = 4 := by decide +kernel
theorem chkNil : chkT [] = 0 := by decide +kernel
theorem chap4 : askT chapT 4 = 2 ∧ listT chapT 4 = [] ∧ partE chapT 0 0 = 2 ∧ partE chapT 3 1 = 0 ∧ partT chapT 3 1 = 2 ∧ partE chapT 2 2 = 2 ∧ askT chapT 1 = 0 ∧ isT chapT 1 = true ∧ askT chapT 2 = 0 ∧ isT chapT 2 = false := by decide +kernel
theorem chapP : partT chapT 0 0 = 0 ∧ partT chapT 2 2 = 0 := by decide +kernel

set_option maxRecDepth 100000 in
set_option maxHeartbeats 8000000 in
theorem walk (W : World) : Calls Try.prog 3 #[] W fun e W' => e = .returned (.bool true) ∧ Below W.heap.size W W' := by
  have HODD := hid (fun v t w ht => odd_calls v t w ht)
  have HCHK := hid (fun v t w ht => check_calls t v w ht)
  have HCH := hid chapter_calls
  have HAL := hid alive_calls
  have HCE := hid (fun v wx (h : TysAt wx v chapT) => cells_calls chapT v 4 wx h)
  have HP1 := hid (fun v wx (h : TysAt wx v chapT) => part_calls chapT v 0 0 wx h)
  have HP2 := hid (fun v wx (h : TysAt wx v chapT) => part_calls chapT v 3 1 wx h)
  have HP3 := hid (fun v wx (h : TysAt wx v chapT) => part_calls chapT v 2 2 wx h)
  have HS1 := hid (fun v wx (h : TysAt wx v chapT) => isScalar_calls chapT v 1 wx h)
  have HS2 := hid (fun v wx (h : TysAt wx v chapT) => isScalar_calls chapT v 2 wx h)
  obtain ⟨q1, q2, q3, q4, q5, q6, q7, q8, q9, q10⟩ := chap4
  rw [q1, q2] at HCE
  rw [q3, chapP.1] at HP1
  rw [q4, q5] at HP2
  rw [q6, chapP.2] at HP3
  rw [q7, q8] at HS1
  rw [q9, q10] at HS2
  clear q1 q2 q3 q4 q5 q6 q7 q8 q9 q10
  have hb0 : Below W.heap.size W (W.alloc (.cells #[.int .u8 1, .int .i64 0, .int .i64 0, .slice none 0 0] 24)) := (Below.refl _ _).alloc (Nat.le_refl _) _
  have HNUM := hid (alloc_new W (.cells #[.int .u8 1, .int .i64 0, .int .i64 0, .slice none 0 0] 24))
  have hmk : ∀ w : World, (Instr.makeSlice 28 (.int .i64 17) (.int .i64 17)).run Try.prog w = .ok (.slice (some ⟨w.heap.size, 0, none⟩) 17 17) (w.alloc (.cells #[.int .u8 0, .int .i64 0, .int .i64 0, .slice none 0 0, .int .u8 0, .int .i64 0, .int .i64 0, .slice none 0 0, .int .u8 0, .int .i64 0, .int .i64 0, .slice none 0 0, .int .u8 0, .int .i64 0, .int .i64 0, .slice none 0 0, .int .u8 0, .int .i64 0, .int .i64 0, .slice none 0 0, .int .u8 0, .int .i64 0, .int .i64 0, .slice none 0 0, .int .u8 0, .int .i64 0, .int .i64 0, .slice none 0 0, .int .u8 0, .int .i64 0, .int .i64 0, .slice none 0 0, .int .u8 0, .int .i64 0, .int .i64 0, .slice none 0 0, .int .u8 0, .int .i64 0, .int .i64 0, .slice none 0 0, .int .u8 0, .int .i64 0, .int .i64 0, .slice none 0 0, .int .u8 0, .int .i64 0, .int .i64 0, .slice none 0 0, .int .u8 0, .int .i64 0, .int .i64 0, .slice none 0 0, .int .u8 0, .int .i64 0, .int .i64 0, .slice none 0 0, .int .u8 0, .int .i64 0, .int .i64 0, .slice none 0 0, .int .u8 0, .int .i64 0, .int .i64 0, .slice none 0 0, .int .u8 0, .int .i64 0, .int .i64 0, .slice none 0 0] 24)) := fun _ => by kernel_rfl
  go_enter Try.func3, Try.ntmps3
  have hbe : Below (W.alloc (.cells #[.int .u8 1, .int .i64 0, .int .i64 0, .slice none 0 0] 24)).heap.size (W.alloc (.cells #[.int .u8 1, .int .i64 0, .int .i64 0, .slice none 0 0] 24)) (W.alloc (.cells #[.int .u8 1, .int .i64 0, .int .i64 0, .slice none 0 0] 24)) := Below.refl _ _
  -- 1
  obtain ⟨cf, _, hszN, _⟩ := copy_facts HNUM.out hbe
  have d0 := cf 0 (by simp)
  have d1 := cf 1 (by simp)
  have d2 := cf 2 (by simp)
  have d3 := cf 3 (by simp)
  simp only [List.getElem_toArray, List.getElem_cons_succ, List.getElem_cons_zero] at d0 d1 d2 d3
  clear cf hszN
  have hbi : Below ((W.alloc (.cells #[.int .u8 1, .int .i64 0, .int .i64 0, .slice none 0 0] 24)).alloc (.cells #[.int .i64 0] 3)).heap.size ((W.alloc (.cells #[.int .u8 1, .int .i64 0, .int .i64 0, .slice none 0 0] 24)).alloc (.cells #[.int .i64 0] 3)) (((W.alloc (.cells #[.int .u8 1, .int .i64 0, .int .i64 0, .slice none 0 0] 24)).alloc (.cells #[.int .i64 0] 3)).alloc (.cells #[.int .u8 4, .int .i64 0, .int .i64 0, .slice (some ⟨W.heap.size + 1, 0, none⟩) 1 1] 24)) := (Below.refl _ _).alloc (Nat.le_refl _) _
  have HTB : Hid (TysAt (((W.alloc (.cells #[.int .u8 1, .int .i64 0, .int .i64 0, .slice none 0 0] 24)).alloc (.cells #[.int .i64 0] 3)).alloc (.cells #[.int .u8 4, .int .i64 0, .int .i64 0, .slice (some ⟨W.heap.size + 1, 0, none⟩) 1 1] 24)) (.slice (some ⟨W.heap.size + 1 + 1, 0, none⟩) 1 1) [⟨4, 0, 0, [0]⟩]) := by
    refine tys_new _ _ [(⟨4, 0, 0, [0]⟩, .slice (some ⟨W.heap.size + 1, 0, none⟩) 1 1)] rfl (fun x hx => ?_) (by simp) _ (by simp)
    simp only [List.mem_cons, List.not_mem_nil, or_false] at hx
    rcases hx with rfl
    · exact (ints_new (W.alloc (.cells #[.int .u8 1, .int .i64 0, .int .i64 0, .slice none 0 0] 24)) _ [0] rfl (by simp) _ (by simp)).below hbi
  have hbn : Below (W.alloc (.cells #[.int .u8 1, .int .i64 0, .int .i64 0, .slice none 0 0] 24)).heap.size (W.alloc (.cells #[.int .u8 1, .int .i64 0, .int .i64 0, .slice none 0 0] 24)) (((W.alloc (.cells #[.int .u8 1, .int .i64 0, .int .i64 0, .slice none 0 0] 24)).alloc (.cells #[.int .i64 0] 3)).alloc (.cells #[.int .u8 4, .int .i64 0, .int .i64 0, .slice (some ⟨W.heap.size + 1, 0, none⟩) 1 1] 24)) := ((Below.refl _ _).alloc (Nat.le_refl _) _).alloc (by simp) _
  clear hbi
  have HC := hid (HODD.out _ [⟨4, 0, 0, [0]⟩] _ HTB.out)
  rw [chk0, decide_eq_true rfl] at HC
  have hbx := hbe.trans (hbn.mono hbe.size)
  clear HTB hbn hbe
  go_wp2_with fail
  refine HC.out.mono ?_
  rintro e w1 ⟨rfl, hbz⟩
  have hbe := hbx.trans (hbz.mono hbx.size)
  clear hbx hbz HC d0 d1 d2 d3
  generalize W.alloc (.cells #[.int .u8 1, .int .i64 0, .int .i64 0, .slice none 0 0] 24) = w0 at *
  -- 2
  obtain ⟨cf, _, hszN, _⟩ := copy_facts HNUM.out hbe
  have d0 := cf 0 (by simp)
  have d1 := cf 1 (by simp)
  have d2 := cf 2 (by simp)
  have d3 := cf 3 (by simp)
  simp only [List.getElem_toArray, List.getElem_cons_succ, List.getElem_cons_zero] at d0 d1 d2 d3
  clear cf hszN
  have HTB : Hid (TysAt (w1.alloc (.cells #[.int .u8 5, .int .i64 1, .int .i64 1, .slice none 0 0, .int .u8 1, .int .i64 0, .int .i64 0, .slice none 0 0] 24)) (.slice (some ⟨w1.heap.size, 0, none⟩) 2 2) [⟨5, 1, 1, []⟩, ⟨1, 0, 0, []⟩]) := tys_new _ _ [(⟨5, 1, 1, []⟩, .slice none 0 0), (⟨1, 0, 0, []⟩, .slice none 0 0)] rfl (no_parts (by simp)) (by simp) _ rfl
  have hbn : Below w1.heap.size w1 (w1.alloc (.cells #[.int .u8 5, .int .i64 1, .int .i64 1, .slice none 0 0, .int .u8 1, .int .i64 0, .int .i64 0, .slice none 0 0] 24)) := (Below.refl _ _).alloc (Nat.le_refl _) _
  have HC := hid (HODD.out _ [⟨5, 1, 1, []⟩, ⟨1, 0, 0, []⟩] _ HTB.out)
  rw [chk1, decide_eq_true rfl] at HC
  have hbx := hbe.trans (hbn.mono hbe.size)
  clear HTB hbn hbe
  go_wp2_with fail
  refine HC.out.mono ?_
  rintro e w2 ⟨rfl, hbz⟩
  have hbe := hbx.trans (hbz.mono hbx.size)
  clear hbx hbz HC d0 d1 d2 d3
  -- 3
  obtain ⟨cf, _, hszN, _⟩ := copy_facts HNUM.out hbe
  have d0 := cf 0 (by simp)
  have d1 := cf 1 (by simp)
  have d2 := cf 2 (by simp)
  have d3 := cf 3 (by simp)
  simp only [List.getElem_toArray, List.getElem_cons_succ, List.getElem_cons_zero] at d0 d1 d2 d3
  clear cf hszN
  have HTB : Hid (TysAt (w2.alloc (.cells #[.int .u8 2, .int .i64 1, .int .i64 0, .slice none 0 0] 24)) (.slice (some ⟨w2.heap.size, 0, none⟩) 1 1) [⟨2, 1, 0, []⟩]) := tys_new _ _ [(⟨2, 1, 0, []⟩, .slice none 0 0)] rfl (no_parts (by simp)) (by simp) _ rfl
  have hbn : Below w2.heap.size w2 (w2.alloc (.cells #[.int .u8 2, .int .i64 1, .int .i64 0, .slice none 0 0] 24)) := (Below.refl _ _).alloc (Nat.le_refl _) _
  have HC := hid (HODD.out _ [⟨2, 1, 0, []⟩] _ HTB.out)
  rw [chk2, decide_eq_true rfl] at HC
  have hbx := hbe.trans (hbn.mono hbe.size)
  clear HTB hbn hbe
  go_wp2_with fail
  refine HC.out.mono ?_
  rintro e w3 ⟨rfl, hbz⟩
  have hbe := hbx.trans (hbz.mono hbx.size)
  clear hbx hbz HC d0 d1 d2 d3
  -- 4
  obtain ⟨cf, _, hszN, _⟩ := copy_facts HNUM.out hbe
  have d0 := cf 0 (by simp)
  have d1 := cf 1 (by simp)
  have d2 := cf 2 (by simp)
  have d3 := cf 3 (by simp)
  simp only [List.getElem_toArray, List.getElem_cons_succ, List.getElem_cons_zero] at d0 d1 d2 d3
  clear cf hszN
  have HTB : Hid (TysAt (w3.alloc (.cells #[.int .u8 0, .int .i64 0, .int .i64 0, .slice none 0 0] 24)) (.slice (some ⟨w3.heap.size, 0, none⟩) 1 1) [⟨0, 0, 0, []⟩]) := tys_new _ _ [(⟨0, 0, 0, []⟩, .slice none 0 0)] rfl (no_parts (by simp)) (by simp) _ rfl
  have hbn : Below w3.heap.size w3 (w3.alloc (.cells #[.int .u8 0, .int .i64 0, .int .i64 0, .slice none 0 0] 24)) := (Below.refl _ _).alloc (Nat.le_refl _) _
  have HC := hid (HODD.out _ [⟨0, 0, 0, []⟩] _ HTB.out)
  rw [chk3, decide_eq_true rfl] at HC
  have hbx := hbe.trans (hbn.mono hbe.size)
  clear HTB hbn hbe
  go_wp2_with fail
  refine HC.out.mono ?_
  rintro e w4 ⟨rfl, hbz⟩
  have hbe := hbx.trans (hbz.mono hbx.size)
  clear hbx hbz HC d0 d1 d2 d3
  -- 5
  obtain ⟨cf, _, hszN, _⟩ := copy_facts HNUM.out hbe
  have d0 := cf 0 (by simp)
  have d1 := cf 1 (by simp)
  have d2 := cf 2 (by simp)
  have d3 := cf 3 (by simp)
  simp only [List.getElem_toArray, List.getElem_cons_succ, List.getElem_cons_zero] at d0 d1 d2 d3
  clear cf hszN
  have HTB : Hid (TysAt (w4.alloc (.cells #[.int .u8 1, .int .i64 0, .int .i64 0, .slice none 0 0, .int .u8 4, .int .i64 0, .int .i64 0, .slice none 0 0] 24)) (.slice (some ⟨w4.heap.size, 0, none⟩) 2 2) [⟨1, 0, 0, []⟩, ⟨4, 0, 0, []⟩]) := tys_new _ _ [(⟨1, 0, 0, []⟩, .slice none 0 0), (⟨4, 0, 0, []⟩, .slice none 0 0)] rfl (no_parts (by simp)) (by simp) _ rfl
  have hbn : Below w4.heap.size w4 (w4.alloc (.cells #[.int .u8 1, .int .i64 0, .int .i64 0, .slice none 0 0, .int .u8 4, .int .i64 0, .int .i64 0, .slice none 0 0] 24)) := (Below.refl _ _).alloc (Nat.le_refl _) _
  have HC := hid (HODD.out _ [⟨1, 0, 0, []⟩, ⟨4, 0, 0, []⟩] _ HTB.out)
  rw [chk4, decide_eq_true rfl] at HC
  have hbx := hbe.trans (hbn.mono hbe.size)
  clear HTB hbn hbe
  go_wp2_with fail
  refine HC.out.mono ?_
  rintro e w5 ⟨rfl, hbz⟩
  have hbe := hbx.trans (hbz.mono hbx.size)
  clear hbx hbz HC d0 d1 d2 d3
  -- 6
  obtain ⟨cf, _, hszN, _⟩ := copy_facts HNUM.out hbe
  have d0 := cf 0 (by simp)
  have d1 := cf 1 (by simp)
  have d2 := cf 2 (by simp)
  have d3 := cf 3 (by simp)
  simp only [List.getElem_toArray, List.getElem_cons_succ, List.getElem_cons_zero] at d0 d1 d2 d3
  clear cf hszN
  have HTB : Hid (TysAt (w5.alloc (.cells #[.int .u8 1, .int .i64 0, .int .i64 0, .slice none 0 0, .int .u8 5, .int .i64 0, .int .i64 0, .slice none 0 0] 24)) (.slice (some ⟨w5.heap.size, 0, none⟩) 2 2) [⟨1, 0, 0, []⟩, ⟨5, 0, 0, []⟩]) := tys_new _ _ [(⟨1, 0, 0, []⟩, .slice none 0 0), (⟨5, 0, 0, []⟩, .slice none 0 0)] rfl (no_parts (by simp)) (by simp) _ rfl
  have hbn : Below w5.heap.size w5 (w5.alloc (.cells #[.int .u8 1, .int .i64 0, .int .i64 0, .slice none 0 0, .int .u8 5, .int .i64 0, .int .i64 0, .slice none 0 0] 24)) := (Below.refl _ _).alloc (Nat.le_refl _) _
  have HC := hid (HODD.out _ [⟨1, 0, 0, []⟩, ⟨5, 0, 0, []⟩] _ HTB.out)
  rw [chk5, decide_eq_true rfl] at HC
  have hbx := hbe.trans (hbn.mono hbe.size)
  clear HTB hbn hbe
  go_wp2_with fail
  refine HC.out.mono ?_
  rintro e w6 ⟨rfl, hbz⟩
  have hbe := hbx.trans (hbz.mono hbx.size)
  clear hbx hbz HC d0 d1 d2 d3
  -- 7
  obtain ⟨cf, _, hszN, _⟩ := copy_facts HNUM.out hbe
  have d0 := cf 0 (by simp)
  have d1 := cf 1 (by simp)
  have d2 := cf 2 (by simp)
  have d3 := cf 3 (by simp)
  simp only [List.getElem_toArray, List.getElem_cons_succ, List.getElem_cons_zero] at d0 d1 d2 d3
  clear cf hszN
  have HTB : Hid (TysAt (w6.alloc (.cells #[.int .u8 1, .int .i64 0, .int .i64 0, .slice none 0 0, .int .u8 5, .int .i64 0, .int .i64 17, .slice none 0 0] 24)) (.slice (some ⟨w6.heap.size, 0, none⟩) 2 2) [⟨1, 0, 0, []⟩, ⟨5, 0, 17, []⟩]) := tys_new _ _ [(⟨1, 0, 0, []⟩, .slice none 0 0), (⟨5, 0, 17, []⟩, .slice none 0 0)] rfl (no_parts (by simp)) (by simp) _ rfl
  have hbn : Below w6.heap.size w6 (w6.alloc (.cells #[.int .u8 1, .int .i64 0, .int .i64 0, .slice none 0 0, .int .u8 5, .int .i64 0, .int .i64 17, .slice none 0 0] 24)) := (Below.refl _ _).alloc (Nat.le_refl _) _
  have HC := hid (HODD.out _ [⟨1, 0, 0, []⟩, ⟨5, 0, 17, []⟩] _ HTB.out)
  rw [chk6, decide_eq_true rfl] at HC
  have hbx := hbe.trans (hbn.mono hbe.size)
  clear HTB hbn hbe
  go_wp2_with fail
  refine HC.out.mono ?_
  rintro e w7 ⟨rfl, hbz⟩
  have hbe := hbx.trans (hbz.mono hbx.size)
  clear hbx hbz HC d0 d1 d2 d3
  -- 8
  obtain ⟨cf, _, hszN, _⟩ := copy_facts HNUM.out hbe
  have d0 := cf 0 (by simp)
  have d1 := cf 1 (by simp)
  have d2 := cf 2 (by simp)
  have d3 := cf 3 (by simp)
  simp only [List.getElem_toArray, List.getElem_cons_succ, List.getElem_cons_zero] at d0 d1 d2 d3
  clear cf hszN
  have hbi : Below (w7.alloc (.cells #[.int .i64 0] 3)).heap.size (w7.alloc (.cells #[.int .i64 0] 3)) ((w7.alloc (.cells #[.int .i64 0] 3)).alloc (.cells #[.int .u8 1, .int .i64 0, .int .i64 0, .slice none 0 0, .int .u8 4, .int .i64 0, .int .i64 0, .slice (some ⟨w7.heap.size, 0, none⟩) 1 1, .int .u8 3, .int .i64 1, .int .i64 0, .slice none 0 0] 24)) := (Below.refl _ _).alloc (Nat.le_refl _) _
  have HTB : Hid (TysAt ((w7.alloc (.cells #[.int .i64 0] 3)).alloc (.cells #[.int .u8 1, .int .i64 0, .int .i64 0, .slice none 0 0, .int .u8 4, .int .i64 0, .int .i64 0, .slice (some ⟨w7.heap.size, 0, none⟩) 1 1, .int .u8 3, .int .i64 1, .int .i64 0, .slice none 0 0] 24)) (.slice (some ⟨w7.heap.size + 1, 0, none⟩) 3 3) [⟨1, 0, 0, []⟩, ⟨4, 0, 0, [0]⟩, ⟨3, 1, 0, []⟩]) := by
    refine tys_new _ _ [(⟨1, 0, 0, []⟩, .slice none 0 0), (⟨4, 0, 0, [0]⟩, .slice (some ⟨w7.heap.size, 0, none⟩) 1 1), (⟨3, 1, 0, []⟩, .slice none 0 0)] rfl (fun x hx => ?_) (by simp) _ (by simp)
    simp only [List.mem_cons, List.not_mem_nil, or_false] at hx
    rcases hx with rfl | rfl | rfl
    · exact ints_none _
    · exact (ints_new w7 _ [0] rfl (by simp) _ rfl).below hbi
    · exact ints_none _
  have hbn : Below w7.heap.size w7 ((w7.alloc (.cells #[.int .i64 0] 3)).alloc (.cells #[.int .u8 1, .int .i64 0, .int .i64 0, .slice none 0 0, .int .u8 4, .int .i64 0, .int .i64 0, .slice (some ⟨w7.heap.size, 0, none⟩) 1 1, .int .u8 3, .int .i64 1, .int .i64 0, .slice none 0 0] 24)) := ((Below.refl _ _).alloc (Nat.le_refl _) _).alloc (by simp) _
  clear hbi
  have HC := hid (HODD.out _ [⟨1, 0, 0, []⟩, ⟨4, 0, 0, [0]⟩, ⟨3, 1, 0, []⟩] _ HTB.out)
  rw [chk7, decide_eq_true rfl] at HC
  have hbx := hbe.trans (hbn.mono hbe.size)
  clear HTB hbn hbe
  go_wp2_with fail
  refine HC.out.mono ?_
  rintro e w8 ⟨rfl, hbz⟩
  have hbe := hbx.trans (hbz.mono hbx.size)
  clear hbx hbz HC d0 d1 d2 d3
  -- 9
  obtain ⟨cf, _, hszN, _⟩ := copy_facts HNUM.out hbe
  have d0 := cf 0 (by simp)
  have d1 := cf 1 (by simp)
  have d2 := cf 2 (by simp)
  have d3 := cf 3 (by simp)
  simp only [List.getElem_toArray, List.getElem_cons_succ, List.getElem_cons_zero] at d0 d1 d2 d3
  clear cf hszN
  have HTB : Hid (TysAt (w8.alloc (.cells #[.int .u8 1, .int .i64 0, .int .i64 1, .slice none 0 0] 24)) (.slice (some ⟨w8.heap.size, 0, none⟩) 1 1) [⟨1, 0, 1, []⟩]) := tys_new _ _ [(⟨1, 0, 1, []⟩, .slice none 0 0)] rfl (no_parts (by simp)) (by simp) _ rfl
  have hbn : Below w8.heap.size w8 (w8.alloc (.cells #[.int .u8 1, .int .i64 0, .int .i64 1, .slice none 0 0] 24)) := (Below.refl _ _).alloc (Nat.le_refl _) _
  have HC := hid (HODD.out _ [⟨1, 0, 1, []⟩] _ HTB.out)
  rw [chk8, decide_eq_true rfl] at HC
  have hbx := hbe.trans (hbn.mono hbe.size)
  clear HTB hbn hbe
  go_wp2_with fail
  refine HC.out.mono ?_
  rintro e w9 ⟨rfl, hbz⟩
  have hbe := hbx.trans (hbz.mono hbx.size)
  clear hbx hbz HC d0 d1 d2 d3
  -- 10
  obtain ⟨cf, _, hszN, _⟩ := copy_facts HNUM.out hbe
  have d0 := cf 0 (by simp)
  have d1 := cf 1 (by simp)
  have d2 := cf 2 (by simp)
  have d3 := cf 3 (by simp)
  simp only [List.getElem_toArray, List.getElem_cons_succ, List.getElem_cons_zero] at d0 d1 d2 d3
  clear cf hszN
  have HTB : Hid (TysAt (w9.alloc (.cells #[.int .u8 1, .int .i64 0, .int .i64 0, .slice none 0 0, .int .u8 5, .int .i64 0, .int .i64 16, .slice none 0 0, .int .u8 5, .int .i64 1, .int .i64 3, .slice none 0 0] 24)) (.slice (some ⟨w9.heap.size, 0, none⟩) 3 3) [⟨1, 0, 0, []⟩, ⟨5, 0, 16, []⟩, ⟨5, 1, 3, []⟩]) := tys_new _ _ [(⟨1, 0, 0, []⟩, .slice none 0 0), (⟨5, 0, 16, []⟩, .slice none 0 0), (⟨5, 1, 3, []⟩, .slice none 0 0)] rfl (no_parts (by simp)) (by simp) _ rfl
  have hbn : Below w9.heap.size w9 (w9.alloc (.cells #[.int .u8 1, .int .i64 0, .int .i64 0, .slice none 0 0, .int .u8 5, .int .i64 0, .int .i64 16, .slice none 0 0, .int .u8 5, .int .i64 1, .int .i64 3, .slice none 0 0] 24)) := (Below.refl _ _).alloc (Nat.le_refl _) _
  have HC := hid (HODD.out _ [⟨1, 0, 0, []⟩, ⟨5, 0, 16, []⟩, ⟨5, 1, 3, []⟩] _ HTB.out)
  rw [chk9, decide_eq_true rfl] at HC
  have hbx := hbe.trans (hbn.mono hbe.size)
  clear HTB hbn hbe
  go_wp2_with fail
  refine HC.out.mono ?_
  rintro e w10 ⟨rfl, hbz⟩
  have hbe := hbx.trans (hbz.mono hbx.size)
  clear hbx hbz HC d0 d1 d2 d3
  -- 11
  obtain ⟨cf, _, hszN, _⟩ := copy_facts HNUM.out hbe
  have d0 := cf 0 (by simp)
  have d1 := cf 1 (by simp)
  have d2 := cf 2 (by simp)
  have d3 := cf 3 (by simp)
  simp only [List.getElem_toArray, List.getElem_cons_succ, List.getElem_cons_zero] at d0 d1 d2 d3
  clear cf hszN
  have hbi : Below (w10.alloc (.cells #[.int .i64 0, .int .i64 3] 3)).heap.size (w10.alloc (.cells #[.int .i64 0, .int .i64 3] 3)) ((w10.alloc (.cells #[.int .i64 0, .int .i64 3] 3)).alloc (.cells #[.int .u8 1, .int .i64 0, .int .i64 0, .slice none 0 0, .int .u8 5, .int .i64 0, .int .i64 16, .slice none 0 0, .int .u8 5, .int .i64 1, .int .i64 2, .slice none 0 0, .int .u8 3, .int .i64 3, .int .i64 0, .slice (some ⟨w10.heap.size, 0, none⟩) 2 2] 24)) := (Below.refl _ _).alloc (Nat.le_refl _) _
  have HTB : Hid (TysAt ((w10.alloc (.cells #[.int .i64 0, .int .i64 3] 3)).alloc (.cells #[.int .u8 1, .int .i64 0, .int .i64 0, .slice none 0 0, .int .u8 5, .int .i64 0, .int .i64 16, .slice none 0 0, .int .u8 5, .int .i64 1, .int .i64 2, .slice none 0 0, .int .u8 3, .int .i64 3, .int .i64 0, .slice (some ⟨w10.heap.size, 0, none⟩) 2 2] 24)) (.slice (some ⟨w10.heap.size + 1, 0, none⟩) 4 4) [⟨1, 0, 0, []⟩, ⟨5, 0, 16, []⟩, ⟨5, 1, 2, []⟩, ⟨3, 3, 0, [0, 3]⟩]) := by
    refine tys_new _ _ [(⟨1, 0, 0, []⟩, .slice none 0 0), (⟨5, 0, 16, []⟩, .slice none 0 0), (⟨5, 1, 2, []⟩, .slice none 0 0), (⟨3, 3, 0, [0, 3]⟩, .slice (some ⟨w10.heap.size, 0, none⟩) 2 2)] rfl (fun x hx => ?_) (by simp) _ (by simp)
    simp only [List.mem_cons, List.not_mem_nil, or_false] at hx
    rcases hx with rfl | rfl | rfl | rfl
    · exact ints_none _
    · exact ints_none _
    · exact ints_none _
    · exact (ints_new w10 _ [0, 3] rfl (by simp) _ rfl).below hbi
  have hbn : Below w10.heap.size w10 ((w10.alloc (.cells #[.int .i64 0, .int .i64 3] 3)).alloc (.cells #[.int .u8 1, .int .i64 0, .int .i64 0, .slice none 0 0, .int .u8 5, .int .i64 0, .int .i64 16, .slice none 0 0, .int .u8 5, .int .i64 1, .int .i64 2, .slice none 0 0, .int .u8 3, .int .i64 3, .int .i64 0, .slice (some ⟨w10.heap.size, 0, none⟩) 2 2] 24)) := ((Below.refl _ _).alloc (Nat.le_refl _) _).alloc (by simp) _
  clear hbi
  have HC := hid (HCHK.out _ [⟨1, 0, 0, []⟩, ⟨5, 0, 16, []⟩, ⟨5, 1, 2, []⟩, ⟨3, 3, 0, [0, 3]⟩] _ HTB.out)
  rw [chkOk] at HC
  have hbx := hbe.trans (hbn.mono hbe.size)
  clear HTB hbn hbe
  go_wp2_with fail
  refine HC.out.mono ?_
  rintro e w11 ⟨rfl, hbz⟩
  have hbe := hbx.trans (hbz.mono hbx.size)
  clear hbx hbz HC d0 d1 d2 d3
  -- 12
  go_wp2_with fail
  refine (HCH.out _).mono ?_
  rintro e w12 ⟨cv, rfl, hcv, hbz⟩
  have hbx := hbe.trans (hbz.mono hbe.size)
  have HC := hid (HCE.out cv w12 hcv)
  clear hcv hbz hbe
  go_wp2_with fail
  refine HC.out.mono ?_
  rintro e w13 ⟨cl, rfl, hcl, hbz⟩
  have hbe := hbx.trans (hbz.mono hbx.size)
  clear hbx hbz HC
  clear hcl
  -- 14
  go_wp2_with fail
  refine (HCH.out _).mono ?_
  rintro e w14 ⟨cv, rfl, hcv, hbz⟩
  have hbx := hbe.trans (hbz.mono hbe.size)
  have HC := hid (HP1.out cv w14 hcv)
  clear hcv hbz hbe
  go_wp2_with fail
  refine HC.out.mono ?_
  rintro e w15 ⟨rfl, hbz⟩
  have hbe := hbx.trans (hbz.mono hbx.size)
  clear hbx hbz HC
  -- 16
  go_wp2_with fail
  refine (HCH.out _).mono ?_
  rintro e w16 ⟨cv, rfl, hcv, hbz⟩
  have hbx := hbe.trans (hbz.mono hbe.size)
  have HC := hid (HP2.out cv w16 hcv)
  clear hcv hbz hbe
  go_wp2_with fail
  refine HC.out.mono ?_
  rintro e w17 ⟨rfl, hbz⟩
  have hbe := hbx.trans (hbz.mono hbx.size)
  clear hbx hbz HC
  -- 18
  go_wp2_with fail
  refine (HCH.out _).mono ?_
  rintro e w18 ⟨cv, rfl, hcv, hbz⟩
  have hbx := hbe.trans (hbz.mono hbe.size)
  have HC := hid (HP3.out cv w18 hcv)
  clear hcv hbz hbe
  go_wp2_with fail
  refine HC.out.mono ?_
  rintro e w19 ⟨rfl, hbz⟩
  have hbe := hbx.trans (hbz.mono hbx.size)
  clear hbx hbz HC
  -- 20
  go_wp2_with fail
  refine (HCH.out _).mono ?_
  rintro e w20 ⟨cv, rfl, hcv, hbz⟩
  have hbx := hbe.trans (hbz.mono hbe.size)
  have HC := hid (HS1.out cv w20 hcv)
  clear hcv hbz hbe
  go_wp2_with fail
  refine HC.out.mono ?_
  rintro e w21 ⟨rfl, hbz⟩
  have hbe := hbx.trans (hbz.mono hbx.size)
  clear hbx hbz HC
  -- 22
  go_wp2_with fail
  refine (HCH.out _).mono ?_
  rintro e w22 ⟨cv, rfl, hcv, hbz⟩
  have hbx := hbe.trans (hbz.mono hbe.size)
  have HC := hid (HS2.out cv w22 hcv)
  clear hcv hbz hbe
  go_wp2_with fail
  refine HC.out.mono ?_
  rintro e w23 ⟨rfl, hbz⟩
  have hbe := hbx.trans (hbz.mono hbx.size)
  clear hbx hbz HC
  -- the chapter again
  go_wp2_with fail
  refine (HAL.out _).mono ?_
  rintro e wa ⟨rfl, hbz⟩
  have hbx := hbe.trans (hbz.mono hbe.size)
  clear hbz hbe
  have HTB : Hid (TysAt (wa.alloc (.cells #[.int .u8 0, .int .i64 0, .int .i64 0, .slice none 0 0, .int .u8 0, .int .i64 0, .int .i64 0, .slice none 0 0, .int .u8 0, .int .i64 0, .int .i64 0, .slice none 0 0, .int .u8 0, .int .i64 0, .int .i64 0, .slice none 0 0, .int .u8 0, .int .i64 0, .int .i64 0, .slice none 0 0, .int .u8 0, .int .i64 0, .int .i64 0, .slice none 0 0, .int .u8 0, .int .i64 0, .int .i64 0, .slice none 0 0, .int .u8 0, .int .i64 0, .int .i64 0, .slice none 0 0, .int .u8 0, .int .i64 0, .int .i64 0, .slice none 0 0, .int .u8 0, .int .i64 0, .int .i64 0, .slice none 0 0, .int .u8 0, .int .i64 0, .int .i64 0, .slice none 0 0, .int .u8 0, .int .i64 0, .int .i64 0, .slice none 0 0, .int .u8 0, .int .i64 0, .int .i64 0, .slice none 0 0, .int .u8 0, .int .i64 0, .int .i64 0, .slice none 0 0, .int .u8 0, .int .i64 0, .int .i64 0, .slice none 0 0, .int .u8 0, .int .i64 0, .int .i64 0, .slice none 0 0, .int .u8 0, .int .i64 0, .int .i64 0, .slice none 0 0] 24)) (.slice (some ⟨wa.heap.size, 0, none⟩) 17 17) (List.replicate 17 ⟨0, 0, 0, []⟩)) := tys_new _ _ (List.replicate 17 (⟨0, 0, 0, []⟩, .slice none 0 0)) rfl (no_parts (fun x hx => by rw [(List.mem_replicate.1 hx).2]; exact ⟨rfl, rfl⟩)) (by simp) _ rfl
  have HC := hid (HCHK.out _ _ _ HTB.out)
  rw [chkMany] at HC
  have hbe := hbx.alloc hbx.size (.cells #[.int .u8 0, .int .i64 0, .int .i64 0, .slice none 0 0, .int .u8 0, .int .i64 0, .int .i64 0, .slice none 0 0, .int .u8 0, .int .i64 0, .int .i64 0, .slice none 0 0, .int .u8 0, .int .i64 0, .int .i64 0, .slice none 0 0, .int .u8 0, .int .i64 0, .int .i64 0, .slice none 0 0, .int .u8 0, .int .i64 0, .int .i64 0, .slice none 0 0, .int .u8 0, .int .i64 0, .int .i64 0, .slice none 0 0, .int .u8 0, .int .i64 0, .int .i64 0, .slice none 0 0, .int .u8 0, .int .i64 0, .int .i64 0, .slice none 0 0, .int .u8 0, .int .i64 0, .int .i64 0, .slice none 0 0, .int .u8 0, .int .i64 0, .int .i64 0, .slice none 0 0, .int .u8 0, .int .i64 0, .int .i64 0, .slice none 0 0, .int .u8 0, .int .i64 0, .int .i64 0, .slice none 0 0, .int .u8 0, .int .i64 0, .int .i64 0, .slice none 0 0, .int .u8 0, .int .i64 0, .int .i64 0, .slice none 0 0, .int .u8 0, .int .i64 0, .int .i64 0, .slice none 0 0, .int .u8 0, .int .i64 0, .int .i64 0, .slice none 0 0] 24)
  clear HTB hbx
  go_wp2_with fail
  refine HC.out.mono ?_
  rintro e wb ⟨rfl, hbz⟩
  have hbx := hbe.trans (hbz.mono hbe.size)
  clear HC hbe hbz
  have HC := hid (HCHK.out (.slice none 0 0) [] wb ⟨none, 0, rfl, by simp, (fun h => by simp at h), (fun _ => rfl), by simp⟩)
  rw [chkNil] at HC
  go_wp2_with fail
  refine HC.out.mono ?_
  rintro e wd ⟨rfl, hbz⟩
  have hbe := hb0.trans ((hbx.trans (hbz.mono hbx.size)).mono hb0.size)
  clear HC hbx hbz
  go_wp2
  go_ret
  exact ⟨by simp, hbe⟩
end Go.Proofs.Ytgimdoagccpcdaa.TyLN
