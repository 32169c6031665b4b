/- Walks over types.find, types.Scalar, types.findPart, types.Part and types.Offset. -/
import Derived.Test.YtindpgejnaofkaaTyS
namespace Go.Proofs.Ytindpgejnaofkaa.TyF
open Go.RowKit Go.Lib SetP IntO TyM TyP TyB TyC TyD TyE TyS

/-- a type, and an error -/
def TyR (x : Ty) (er : Int) (w : World) (e : Ending) (w' : World) : Prop := ∃ pv, e = .returned (.tuple #[tyV x pv, .int .i64 er]) ∧ IntsAt w' pv x.parts ∧ Below w.heap.size w w'
def findT (t : List Ty) (k : Int) : Ty := if askT t k = 0 then tyAt t k else default
theorem ask_err {t : List Ty} {k : Int} (h : chkT t ≠ 0) : askT t k = chkT t ∧ findT t k = default := by
  have : askT t k = chkT t := by unfold askT; rw [if_neg h]
  exact ⟨this, by unfold findT; rw [if_neg (by rw [this]; exact h)]⟩
theorem ask_out {t : List Ty} {k : Int} (h : chkT t = 0) (hk : ¬ (0 ≤ k ∧ k < t.length)) : askT t k = 2 ∧ findT t k = default := by
  have : askT t k = 2 := by unfold askT; rw [if_pos h, if_neg hk]
  exact ⟨this, by unfold findT; rw [if_neg (by rw [this]; decide)]⟩
theorem ask_in {t : List Ty} {k : Int} (h : chkT t = 0) (hk : 0 ≤ k ∧ k < t.length) : askT t k = 0 ∧ findT t k = tyAt t k := by
  have : askT t k = 0 := by unfold askT; rw [if_pos h, if_pos hk]
  exact ⟨this, by unfold findT; rw [if_pos this]⟩
theorem find_zero {t : List Ty} {k : Int} (h : askT t k = 0) : findT t k = tyAt t k := by unfold findT; rw [if_pos h]

set_option maxHeartbeats 1000000 in
theorem find_calls (t : List Ty) (v : Value) (k : Int) (w : World) (ht : TysAt w v t) :
    Calls Try.prog 35 #[v, .int .i64 k] w (TyR (findT t k) (askT t k) w) := by
  have HT := hid ht
  have hb0 : Below w.heap.size w (w.alloc (.cells #[.int .u8 0, .int .i64 0, .int .i64 0, .slice none 0 0] 43)) := (Below.refl _ _).alloc (Nat.le_refl _) _
  have HC := hid (check_calls t v _ (ht.below hb0))
  have HB := hid (fun wx b (h : wx.cell? ⟨b, 0, none⟩ = some (.int .i64 k)) hb => below_calls t.length (.slice (some ⟨b, 0, none⟩) 1 1) [k] wx (ints_one h hb))
  obtain ⟨to, tcap, rfl⟩ := ht.slice
  have HK : Hid ((w.alloc (.cells #[.int .u8 0, .int .i64 0, .int .i64 0, .slice none 0 0] 43)).heap[w.heap.size]? = some (.cells #[.int .u8 0, .int .i64 0, .int .i64 0, .slice none 0 0] 43 (0, 0))) := alloc_new _ _
  clear ht
  by_cases h0 : chkT t = 0
  · rw [h0] at HC
    have HH := hid h0
    clear h0
    have HB2 := hid (fun w1 (hb1 : Below (w.alloc (.cells #[.int .u8 0, .int .i64 0, .int .i64 0, .slice none 0 0] 43)).heap.size (w.alloc (.cells #[.int .u8 0, .int .i64 0, .int .i64 0, .slice none 0 0] 43)) w1) => HB.out (w1.alloc (.cells #[.int .i64 k] 3)) w1.heap.size (by simp) (by simp))
    rw [low_one] at HB2
    clear HB
    by_cases hin : 0 ≤ k ∧ k < t.length
    · obtain ⟨e1, e2⟩ := ask_in HH.out hin
      rw [e1, e2, decide_eq_true hin] at *
      have htk : ∃ m : Nat, k = m := ⟨k.toNat, by omega⟩
      obtain ⟨m, rfl⟩ := htk
      have hm : m < t.length := by omega
      have hx : tyAt t (m : Int) = t[m] := by unfold tyAt; rw [Int.toNat_natCast, List.getElem?_eq_getElem hm]; rfl
      rw [hx]
      obtain ⟨tb, off, rfl, hlt, pv, c0, c1, c2, c3, hp⟩ := HT.out.at m hm
      have HP := hid hp
      obtain ⟨pa, pc, rfl, hpl⟩ := ints_slice hp
      have HQ := hid (And.intro c0 (And.intro c1 (And.intro c2 c3)))
      clear e1 e2 hin hx HH hp c0 c1 c2 c3
      generalize t[m] = x at *
      generalize t.length = n at *
      go_enter Try.func35, Try.ntmps35
      go_wp2_with fail
      refine HC.out.mono ?_
      rintro e w1 ⟨rfl, hb1⟩
      have HB3 := hid (HB2.out w1 hb1)
      obtain ⟨cf, fz, hsz, hk1⟩ := copy_facts HK.out hb1
      have d0 := cf 0 (by simp)
      have d1 := cf 1 (by simp)
      have d2 := cf 2 (by simp)
      have d3 := cf 3 (by simp)
      have z0 := fz 0
      have z1 := fz 1
      have z2 := fz 2
      have z3 := fz 3
      simp only [List.getElem_toArray, List.getElem_cons_succ, List.getElem_cons_zero] at d0 d1 d2 d3
      have HK1 := hid (alloc_old hk1 (.cells #[.int .i64 (m : Int)] 3))
      have hbe := (hb0.trans (hb1.mono hb0.size)).alloc (by omega) (.cells #[.int .i64 (m : Int)] 3)
      clear cf fz hk1 hb1 d0 d1 d2 d3 z0 z1 z2 z3
      go_wp2_with fail
      refine HB3.out.mono ?_
      rintro e w2 ⟨rfl, hb2⟩
      obtain ⟨cf, fz, hsz, hk1⟩ := copy_facts HK1.out hb2
      have d0 := cf 0 (by simp)
      have d1 := cf 1 (by simp)
      have d2 := cf 2 (by simp)
      have d3 := cf 3 (by simp)
      have z0 := fz 0
      have z1 := fz 1
      have z2 := fz 2
      have z3 := fz 3
      simp only [List.getElem_toArray, List.getElem_cons_succ, List.getElem_cons_zero] at d0 d1 d2 d3
      have hbe2 := hbe.trans (hb2.mono hbe.size)
      have c0 := (hbe2.cell (p := ⟨tb, _, none⟩) hlt).trans HQ.out.1
      have c1 := (hbe2.cell (p := ⟨tb, _, none⟩) hlt).trans HQ.out.2.1
      have c2 := (hbe2.cell (p := ⟨tb, _, none⟩) hlt).trans HQ.out.2.2.1
      have c3 := (hbe2.cell (p := ⟨tb, _, none⟩) hlt).trans HQ.out.2.2.2
      clear cf fz hk1 hb2 HB2 HB3 HC
      go_wp2
      exact bodyPost_ret (v := .tuple #[.agg #[.int .u8 x.kind, .int .i64 x.elem, .int .i64 x.many, .slice pa x.parts.length pc], .int .i64 0]) (by simp [results, Try.results35, go_sem, d0, d1, d2, d3]) rfl ⟨_, rfl, HP.out.below (set_copy (set_copy (set_copy (set_copy hbe2)))), set_copy (set_copy (set_copy (set_copy hbe2)))⟩
    · obtain ⟨e1, e2⟩ := ask_out HH.out hin
      rw [e1, e2, decide_eq_false hin] at *
      clear e1 e2 hin HH
      generalize t.length = n at *
      go_enter Try.func35, Try.ntmps35
      go_wp2_with fail
      refine HC.out.mono ?_
      rintro e w1 ⟨rfl, hb1⟩
      have HB3 := hid (HB2.out w1 hb1)
      obtain ⟨cf, fz, hsz, hk1⟩ := copy_facts HK.out hb1
      have d0 := cf 0 (by simp)
      have d1 := cf 1 (by simp)
      have d2 := cf 2 (by simp)
      have d3 := cf 3 (by simp)
      have z0 := fz 0
      have z1 := fz 1
      have z2 := fz 2
      have z3 := fz 3
      simp only [List.getElem_toArray, List.getElem_cons_succ, List.getElem_cons_zero] at d0 d1 d2 d3
      have HK1 := hid (alloc_old hk1 (.cells #[.int .i64 k] 3))
      have hbe := (hb0.trans (hb1.mono hb0.size)).alloc (by omega) (.cells #[.int .i64 k] 3)
      clear cf fz hk1 hb1 d0 d1 d2 d3 z0 z1 z2 z3
      go_wp2_with fail
      refine HB3.out.mono ?_
      rintro e w2 ⟨rfl, hb2⟩
      obtain ⟨cf, fz, hsz, hk1⟩ := copy_facts HK1.out hb2
      have d0 := cf 0 (by simp)
      have d1 := cf 1 (by simp)
      have d2 := cf 2 (by simp)
      have d3 := cf 3 (by simp)
      have z0 := fz 0
      have z1 := fz 1
      have z2 := fz 2
      have z3 := fz 3
      simp only [List.getElem_toArray, List.getElem_cons_succ, List.getElem_cons_zero] at d0 d1 d2 d3
      have hbe2 := hbe.trans (hb2.mono hbe.size)
      clear cf fz hk1 hb2 HB2 HB3 HC
      go_wp2
      exact bodyPost_ret (v := .tuple #[.agg #[.int .u8 0, .int .i64 0, .int .i64 0, .slice none 0 0], .int .i64 2]) (by simp [results, Try.results35, go_sem, d0, d1, d2, d3]) rfl ⟨_, rfl, ints_none _, set_copy (set_copy (set_copy (set_copy hbe2)))⟩
  · obtain ⟨e1, e2⟩ := ask_err (k := k) h0
    rw [e1, e2]
    clear e1 e2 HB
    have hne : (chkT t != 0) = true := by simpa using h0
    generalize chkT t = er at *
    generalize t.length = n at *
    clear h0
    go_enter Try.func35, Try.ntmps35
    go_wp2_with fail
    refine HC.out.mono ?_
    rintro e w1 ⟨rfl, hb1⟩
    obtain ⟨cf, fz, hsz, hk1⟩ := copy_facts HK.out hb1
    have d0 := cf 0 (by simp)
    have d1 := cf 1 (by simp)
    have d2 := cf 2 (by simp)
    have d3 := cf 3 (by simp)
    have z0 := fz 0
    have z1 := fz 1
    have z2 := fz 2
    have z3 := fz 3
    simp only [List.getElem_toArray, List.getElem_cons_succ, List.getElem_cons_zero] at d0 d1 d2 d3
    have hbe := hb0.trans (hb1.mono hb0.size)
    clear cf fz hk1 hb1
    go_wp2
    exact bodyPost_ret (v := .tuple #[.agg #[.int .u8 0, .int .i64 0, .int .i64 0, .slice none 0 0], .int .i64 er]) (by simp [results, Try.results35, go_sem, d0, d1, d2, d3]) rfl ⟨_, rfl, ints_none _, set_copy (set_copy (set_copy (set_copy hbe)))⟩
end Go.Proofs.Ytindpgejnaofkaa.TyF
