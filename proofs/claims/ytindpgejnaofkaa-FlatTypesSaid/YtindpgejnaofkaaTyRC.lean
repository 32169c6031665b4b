/- Walks over fescueref03.PartOf, Cells, Part, Ahead and Offset. -/
import Derived.Test.YtindpgejnaofkaaTyRB
import Derived.Test.YtindpgejnaofkaaTyH
namespace Go.Proofs.Ytindpgejnaofkaa.TyRC
open Go.RowKit Go.Lib SetP IntO TyM TyP TyB TyC TyD TyE TyS TyF TyH TyRA TyRB Fresh

/-- the type of a part; below 0: there is none -/
def partO (x : Ty) (n : Int) : Int := if 0 ≤ n then ((partsOf x)[n.toNat]?).getD (-1) else -1
theorem partO_in {x : Ty} {n : Nat} (h : n < (partsOf x).length) : partO x n = (partsOf x)[n] := by
  unfold partO
  rw [if_pos (by omega), Int.toNat_natCast, List.getElem?_eq_getElem h, Option.getD_some]
theorem partO_out {x : Ty} {n : Int} (h : ¬ (0 ≤ n ∧ n < (partsOf x).length)) : partO x n = -1 := by
  unfold partO
  by_cases h0 : 0 ≤ n
  · rw [if_pos h0, List.getElem?_eq_none (by omega), Option.getD_none]
  · rw [if_neg h0]

set_option maxHeartbeats 1000000 in
theorem partOf_calls (x : Ty) (pv : Value) (n : Int) (w : World) (hp : IntsAt w pv x.parts) : Calls Try.prog 47 #[tyV x pv, .int .i64 n] w (IntR (partO x n) w) := by
  have HP := hid hp
  obtain ⟨pa, pc, rfl, hpl⟩ := ints_slice hp
  have hb0 : Below w.heap.size w (w.alloc (.cells #[.int .u8 x.kind, .int .i64 x.elem, .int .i64 x.many, .slice pa x.parts.length pc] 43)) := (Below.refl _ _).alloc (Nat.le_refl _) _
  have HPA := hid (hp.below hb0)
  have HIN := hid (fun m (h : m < (partsOf x).length) => partO_in h)
  have HOUT := hid (@partO_out x n)
  clear hp
  by_cases h4 : x.kind = 4
  · rw [partsOf_struct h4] at HOUT HIN
    by_cases hn : 0 ≤ n ∧ n < x.parts.length
    · obtain ⟨m, rfl⟩ : ∃ m : Nat, n = m := ⟨n.toNat, by omega⟩
      have hm : m < x.parts.length := by omega
      have HE := hid ((HIN.out m hm).trans rfl)
      rw [HE.out]
      obtain ⟨b, off, rfl, hbs, hc⟩ := ints_at HPA.out m hm
      obtain ⟨y, hy⟩ : ∃ y, x.parts[m] = y := ⟨_, rfl⟩
      rw [hy] at hc ⊢
      clear HE HIN HOUT HP hn hy
      obtain ⟨xk, xe, xm, xp⟩ := x
      simp only at *
      subst h4
      generalize xp.length = pn at *
      go_enter Try.func47, Try.ntmps47
      go_wp2
      go_ret
      exact ⟨rfl, hb0⟩
    · rw [HOUT.out hn]
      clear HIN HOUT HP HPA
      obtain ⟨xk, xe, xm, xp⟩ := x
      simp only at *
      subst h4
      generalize xp.length = pn at *
      by_cases h0 : n < 0
      · clear hn
        go_enter Try.func47, Try.ntmps47
        go_wp2
        go_ret
        exact ⟨rfl, hb0⟩
      · have h1 : (pn : Int) ≤ n := by omega
        clear hn
        go_enter Try.func47, Try.ntmps47
        go_wp2
        all_goals (try (exfalso; omega))
        go_ret
        exact ⟨rfl, hb0⟩
  by_cases h5 : x.kind = 5
  · rw [partsOf_array h5] at HOUT HIN
    by_cases hn : 0 ≤ n ∧ n < x.many
    · obtain ⟨m, rfl⟩ : ∃ m : Nat, n = m := ⟨n.toNat, by omega⟩
      have HE := hid ((HIN.out m (by rw [List.length_replicate]; omega)).trans (List.getElem_replicate _))
      rw [HE.out]
      obtain ⟨hn1, hn2⟩ := hn
      clear HE HIN HOUT HP HPA
      obtain ⟨xk, xe, xm, xp⟩ := x
      simp only at *
      subst h5
      generalize xp.length = pn at *
      go_enter Try.func47, Try.ntmps47
      go_wp2
      all_goals (try (exfalso; omega))
      go_ret
      exact ⟨rfl, hb0⟩
    · rw [HOUT.out (by rw [List.length_replicate]; omega)]
      clear HIN HOUT HP HPA
      obtain ⟨xk, xe, xm, xp⟩ := x
      simp only at *
      subst h5
      generalize xp.length = pn at *
      by_cases h0 : n < 0
      · clear hn
        go_enter Try.func47, Try.ntmps47
        go_wp2
        all_goals (try (exfalso; omega))
        go_ret
        exact ⟨rfl, hb0⟩
      · have h1 : xm ≤ n := by omega
        clear hn
        go_enter Try.func47, Try.ntmps47
        go_wp2
        all_goals (try (exfalso; omega))
        go_ret
        exact ⟨rfl, hb0⟩
  · rw [partsOf_other h4 h5] at HOUT
    rw [HOUT.out (by simp)]
    clear HIN HOUT HP HPA
    obtain ⟨xk, xe, xm, xp⟩ := x
    simp only at *
    have e4 : (xk == 4) = false := by simpa using h4
    have e5 : (xk == 5) = false := by simpa using h5
    clear h4 h5
    generalize xp.length = pn at *
    go_enter Try.func47, Try.ntmps47
    go_wp2
    go_ret
    exact ⟨rfl, hb0⟩

theorem ask_fit {t : List Ty} {k : Int} (h : askT t k = 0) : Fit t k := by
  obtain ⟨_, hl, n, x, rfl, hx, hm, _⟩ := askT_some h
  have hn := (List.getElem?_eq_some_iff.1 hx).1
  exact ⟨by omega, by omega, by rw [Int.toNat_natCast, mayB_at hx]; exact hm, hl.mono (by omega)⟩

set_option maxHeartbeats 400000 in
theorem cellsR_calls (t : List Ty) (v : Value) (k : Int) (w : World) (ht : TysAt w v t) : Calls Try.prog 28 #[v, .int .i64 k] w (IntsER (listT t k) (askT t k) w) := by
  have HC := hid (asked_calls t v k w ht)
  have HI : Hid (listT t k = if askT t k = 0 then cellsOf t k.toNat else []) := rfl
  have HT := hid ht
  obtain ⟨to, tcap, rfl⟩ := ht.slice
  clear ht
  rw [HI.out]
  clear HI
  by_cases h0 : askT t k = 0
  · have hf := ask_fit h0
    obtain ⟨_, _, m, x, rfl, hx, _, hcl⟩ := askT_some h0
    rw [if_pos h0, h0, Int.toNat_natCast]
    rw [h0] at HC
    have HP := hid (fun wx (hb : Below w.heap.size w wx) => of_any (m + 1) t _ m wx (HT.out.below hb) (by omega) hf)
    clear h0 hx hf
    generalize t.length = n at *
    generalize cellsOf t m = l at *
    go_enter Try.func28, Try.ntmps28
    go_wp2_with fail
    refine HC.out.mono ?_
    rintro e w1 ⟨rfl, hb1⟩
    have HP1 := hid (HP.out w1 hb1)
    go_wp2_with fail
    refine HP1.out.mono ?_
    rintro e w2 ⟨u, mm, rfl, hu, hb2⟩
    have hbe := hb1.trans (hb2.mono hb1.size)
    have HU := hid (intsAt_of_owns hu (by omega))
    clear hb1 hb2 hu
    go_wp2
    go_ret2
    exact ⟨_, rfl, HU.out, hbe⟩
  · rw [if_neg h0]
    have hne : (askT t k != 0) = true := by simpa using h0
    generalize askT t k = er at *
    generalize t.length = n at *
    clear h0
    go_enter Try.func28, Try.ntmps28
    go_wp2_with fail
    refine HC.out.mono ?_
    rintro e w1 ⟨rfl, hb1⟩
    go_wp2
    go_ret2
    exact ⟨_, rfl, ints_none _, hb1⟩

set_option maxHeartbeats 1000000 in
theorem partR_calls (t : List Ty) (v : Value) (k n : Int) (w : World) (ht : TysAt w v t) : Calls Try.prog 31 #[v, .int .i64 k, .int .i64 n] w (IntER (partT t k n) (partE t k n) w) := by
  have HC := hid (asked_calls t v k w ht)
  have HT := hid ht
  have HD : Hid (partT t k n = if partE t k n = 0 then ((partsOf (tyAt t k))[n.toNat]?).getD 0 else 0) := rfl
  obtain ⟨to, tcap, rfl⟩ := ht.slice
  clear ht
  by_cases h0 : askT t k = 0
  · have HFIT := hid (parts_fit h0)
    have HIN := hid (fun hn => partE_in (n := n) h0 hn)
    have HOUT := hid (fun hn => partE_out (n := n) h0 hn)
    obtain ⟨_, _, m, x, rfl, hx, _, _⟩ := askT_some h0
    have hm := (List.getElem?_eq_some_iff.1 hx).1
    rw [tyAt_some hx] at HFIT HIN HOUT HD
    rw [h0] at HC
    obtain ⟨hk', hx'⟩ := List.getElem?_eq_some_iff.1 hx
    have HA := hid (fun wx (hb : Below w.heap.size w wx) => (HT.out.below hb).at m hm)
    rw [hx'] at HA
    have HPO := hid (fun pv wx hp => partOf_calls x pv n wx hp)
    clear h0 hx hx'
    by_cases hn : 0 ≤ n ∧ n < (partsOf x).length
    · have he := HIN.out hn
      rw [HD.out, if_pos he, he]
      obtain ⟨q, rfl⟩ : ∃ q : Nat, n = q := ⟨n.toNat, by omega⟩
      have hq : q < (partsOf x).length := by omega
      rw [partO_in hq] at HPO
      have hge := (HFIT.out _ (List.getElem_mem hq)).1.1
      rw [Int.toNat_natCast, List.getElem?_eq_getElem hq, Option.getD_some]
      obtain ⟨p, hp⟩ : ∃ p, (partsOf x)[q] = p := ⟨_, rfl⟩
      rw [hp] at HPO hge ⊢
      clear HD HIN HOUT HFIT he hn hp HT
      generalize t.length = tl at *
      go_enter Try.func31, Try.ntmps31
      go_wp2_with fail
      refine HC.out.mono ?_
      rintro e w1 ⟨rfl, hb1⟩
      obtain ⟨tb, off, rfl, hlt, pv, c0, c1, c2, c3, hpv⟩ := HA.out w1 hb1
      have HP1 := hid (HPO.out pv w1 hpv)
      obtain ⟨pa, pc, rfl, _⟩ := ints_slice hpv
      clear hpv HA HPO
      go_wp2_with fail
      refine HP1.out.mono ?_
      rintro e w2 ⟨rfl, hb2⟩
      have hbe := hb1.trans (hb2.mono hb1.size)
      clear hb1 hb2
      go_wp2
      go_ret2
      exact ⟨rfl, hbe⟩
    · have he := HOUT.out hn
      rw [HD.out, he, if_neg (by decide)]
      rw [partO_out hn] at HPO
      clear HD HIN HOUT HFIT he hn HT
      generalize t.length = tl at *
      go_enter Try.func31, Try.ntmps31
      go_wp2_with fail
      refine HC.out.mono ?_
      rintro e w1 ⟨rfl, hb1⟩
      obtain ⟨tb, off, rfl, hlt, pv, c0, c1, c2, c3, hpv⟩ := HA.out w1 hb1
      have HP1 := hid (HPO.out pv w1 hpv)
      obtain ⟨pa, pc, rfl, _⟩ := ints_slice hpv
      clear hpv HA HPO
      go_wp2_with fail
      refine HP1.out.mono ?_
      rintro e w2 ⟨rfl, hb2⟩
      have hbe := hb1.trans (hb2.mono hb1.size)
      clear hb1 hb2
      go_wp2
      go_ret2
      exact ⟨rfl, hbe⟩
  · rw [partE_err h0, (partT_err (by rw [partE_err h0]; exact h0)).1]
    have hne : (askT t k != 0) = true := by simpa using h0
    generalize askT t k = er at *
    generalize t.length = tl at *
    clear h0
    go_enter Try.func31, Try.ntmps31
    go_wp2_with fail
    refine HC.out.mono ?_
    rintro e w1 ⟨rfl, hb1⟩
    go_wp2
    go_ret2
    exact ⟨rfl, hb1⟩
end Go.Proofs.Ytindpgejnaofkaa.TyRC
