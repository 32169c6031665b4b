/- Walks over fescueref04.Of and To. -/
import Derived.Test.YtindpgejnaofkaaFlG
namespace Go.Proofs.Ytindpgejnaofkaa.FlR
open Go.RowKit Go.Lib SetP IntO TyM TyP TyB TyC TyD TyE TyS TyF TyH TyK TyW TyRT TyRA TyRB TyRC TyN FlM FlQ FlW FlG FlX FlF Fresh

theorem fall_part (t : List Ty) (l : List Int) (i : Nat) : (flatAll t (l.take i)).length ≤ (flatAll t l).length := by
  have h2 : flatAll t l = flatAll t (l.take i) ++ flatAll t (l.drop i) := by rw [← flatAll_append, List.take_append_drop]
  rw [h2, List.length_append]; omega
theorem fit_nat {t : List Ty} {p : Int} (h : Fit t p) : (flatOf t p.toNat).length ≤ (cellsOf t p.toNat).length :=
  (flat_le (p.toNat + 1) p.toNat (by omega) (by rw [Int.toNat_of_nonneg h.1]; exact h)).2
theorem fall_fit {t : List Ty} {l : List Int} (h : ∀ p ∈ l, Fit t p) : (flatAll t l).length ≤ (cellsAll t l).length := all_le t l fun p hp => fit_nat (h p hp)

set_option maxHeartbeats 2000000 in
theorem flatR_any (N : Nat) : ∀ (t : List Ty) (v : Value) (k : Nat) (w : World), TysAt w v t → k < N → Fit t k → Calls Try.prog 29 #[v, .int .i64 k] w (OwnI (flatOf t k) w) := by
  induction N with
  | zero => intro t v k w ht hk; omega
  | succ N ih =>
    intro t v k w ht hk hfit
    obtain ⟨n, x, hkn, hnt, hx, hmay, hlow⟩ := fit_at hfit
    obtain rfl : k = n := by omega
    obtain ⟨ao, cap, rfl⟩ := ht.slice
    have HT := hid ht
    obtain ⟨tb, off, rfl, hlt, pv, c0, c1, c2, c3, hp⟩ := ht.at k hnt
    obtain ⟨hk', hx'⟩ := List.getElem?_eq_some_iff.1 hx
    rw [hx'] at c0 c1 c2 hp
    have HP := hid hp
    obtain ⟨pa, pc, rfl, hpl⟩ := ints_slice hp
    have hb0 : Below w.heap.size w (w.alloc (.cells #[.int .u8 x.kind, .int .i64 x.elem, .int .i64 x.many, .slice pa x.parts.length pc] 43)) := (Below.refl _ _).alloc (Nat.le_refl _) _
    have HK := hid (alloc_new w (.cells #[.int .u8 x.kind, .int .i64 x.elem, .int .i64 x.many, .slice pa x.parts.length pc] 43))
    have HIH := hid (fun (p : Nat) (hp : Fit t p) (hpk : p < k) wx (hb : Below w.heap.size w wx) => ih t _ p wx (HT.out.below hb) (by omega) hp)
    have HPART := hid (fit_part hnt hmay hlow)
    have HLEN := hid (Nat.le_trans (fall_fit fun p hp => (HPART.out p hp).1) (len_parts hmay hlow))
    have HSP := hid (fun l i => fall_part t l i)
    by_cases h4 : x.kind = 4
    · have HC := hid (flatOf_struct hx hmay h4)
      rw [HC.out]
      rw [partsOf_struct h4] at HPART HLEN
      have HTK := hid (fun i (h : i < x.parts.length) => flatAll_take t h)
      clear ih hp hx hx' hmay hlow ht hfit HC hkn hnt
      obtain ⟨xk, xe, xm, xp⟩ := x
      simp only at *
      subst h4
      generalize t.length = n at *
      go_enter Try.func29, Try.ntmps29
      go_wp2
      go_loopg [6, 7] xp.length (fun gk o iv wr => ∃ i : Nat, i + gk = xp.length ∧ iv = .int .i64 i ∧ (∃ m, wr.ownsRow w.heap.size 3 1 o m (intVals (flatAll t (xp.take i)))) ∧ Below w.heap.size w wr ∧ wr.heap[w.heap.size]? = some (.cells #[.int .u8 4, .int .i64 xe, .int .i64 xm, .slice pa xp.length pc] 43 (0, 0)))
      case atStart => exact ⟨0, by omega, rfl, ⟨0, World.ownsRow_nil _ _ _ _⟩, hb0, HK.out⟩
      case round =>
        obtain ⟨i, hi, rfl, ⟨m, hown⟩, hbe, hkk⟩ := hrel
        have HI := hid hi
        have HKK := hid hkk
        have HOWN := hid hown
        obtain ⟨cf, _, _, _⟩ := copy_facts hkk (Below.refl _ _)
        have d3 := cf 3 (by simp)
        simp only [List.getElem_toArray, List.getElem_cons_succ, List.getElem_cons_zero] at d3
        clear hkk cf hi
        by_cases hlt2 : i < xp.length
        · obtain ⟨b, o, rfl, hbs, hc⟩ := ints_at (HP.out.below hbe) i hlt2
          obtain ⟨hpf, hpk⟩ := HPART.out _ (List.getElem_mem hlt2)
          have HTI := hid (HTK.out i hlt2)
          have hsp := HSP.out xp (i + 1)
          rw [HTI.out, List.length_append] at hsp
          have hlen := HLEN.out
          generalize xp[i] = p at *
          obtain ⟨q, rfl⟩ : ∃ q : Nat, p = q := ⟨p.toNat, by have := hpf.1; omega⟩
          rw [Int.toNat_natCast] at hsp HTI
          have HC := hid (HIH.out q hpf (by omega) wr hbe)
          have hml : m ≤ 1000 := by have := hown.1; rw [intVals_length] at this; omega
          have hql : (flatOf t q).length ≤ 1000 := by omega
          clear hown hpf hpk hsp hlen
          generalize (flatOf t q) = cq at *
          go_wp2_with fail
          refine HC.out.mono ?_
          rintro e w1 ⟨u, m2, rfl, hu, hb1⟩
          have hbe1 := hbe.trans (hb1.mono hbe.size)
          have HO1 := hid (ownsRow_below HOWN.out hb1)
          have HU := hid (intsAt_of_owns hu (by omega))
          have HK1 := hid ((hb1.block _ (Array.getElem?_eq_some_iff.1 HKK.out).1).trans HKK.out)
          have hsz := hbe1.size
          clear hu hb1 d3 hc hbe HC
          go_wp2_with (at_builtin; refine wpList_append_ints rfl _ _ rfl w.heap.size u6 rfl m (intVals (flatAll t (xp.take i))) HO1.out (by omega) u cq rfl HU.out (by omega) hsz ?_)
          intro v' w2 hown' hgrow
          have hbe2 := hbe1.grown hgrow hsz (fun g hg => by
            rcases HO1.out.2 with ⟨rfl, _⟩ | ⟨g', _, _, rfl, hg', _⟩
            · cases hg
            · have : g' = g := by simpa [Value.ownBlock] using hg
              omega)
          have HK2 := hid ((hgrow.block _ (Array.getElem?_eq_some_iff.1 HK1.out).1 (fun e => row_other HO1.out HK1.out (by decide) e.symm)).trans HK1.out)
          have HO2 : Hid (w2.ownsRow w.heap.size 3 1 v' (m + cq.length) (intVals (flatAll t (xp.take (i + 1))))) := by show World.ownsRow _ _ _ _ _ _ _; rw [HTI.out, intVals_append]; exact hown'
          clear hgrow hown' hbe1
          go_wp2
          go_roundg (gk - 1)
          case measure => have := HI.out; omega
          case rel => exact ⟨i + 1, by have := HI.out; omega, by go_num, ⟨_, HO2.out⟩, hbe2, HK2.out⟩
        · obtain rfl : i = xp.length := by have := HI.out; omega
          rw [List.take_length] at HOWN
          clear hown
          go_wp2
          go_ret
          exact ⟨_, m, rfl, HOWN.out, hbe⟩
    by_cases h5 : x.kind = 5
    · rw [flatOf_array hx hmay h5]
      obtain ⟨hm1, hm2, he0, he1⟩ := mayX_array hmay h5
      obtain ⟨q, hq⟩ : ∃ q : Nat, x.elem = (q : Int) := ⟨x.elem.toNat, by omega⟩
      have hpf := (HPART.out _ (elems_parts t k hmay x.elem (by rw [elemsOf_array h5]; simp))).1
      rw [hq] at hpf
      have HC := hid (HIH.out q hpf (by omega) _ hb0)
      rw [hq, Int.toNat_natCast]
      generalize flatOf t q = fl at *
      clear ih hp hx hx' hmay hlow ht hfit hkn hnt HPART HLEN HSP HIH HK hm1 hm2 he0 he1 hpf
      obtain ⟨xk, xe, xm, xp⟩ := x
      simp only at *
      subst h5
      subst hq
      generalize t.length = n at *
      generalize xp.length = pl at *
      go_enter Try.func29, Try.ntmps29
      go_wp2_with fail
      refine HC.out.mono ?_
      rintro e w1 ⟨u, m, rfl, hu, hb1⟩
      have HU := hid (owns_base hu hb0.size)
      have hbe := hb0.trans (hb1.mono hb0.size)
      clear hu hb1
      go_wp2
      go_ret
      exact ⟨u, m, rfl, HU.out, hbe⟩
    · have hs : scalarK x.kind = true := by
        rcases mayX_kind hmay with h | h | h
        · exact h
        · exact absurd h h4
        · exact absurd h h5
      rw [flatOf_scalar hx hs]
      have e4 : (x.kind != 4) = true := by simpa using h4
      have e5 : (x.kind == 5) = false := by simpa using h5
      clear ih hp hx hx' hmay hlow ht hfit hkn hnt HPART HLEN HSP HIH HK h4 h5 hs
      obtain ⟨xk, xe, xm, xp⟩ := x
      simp only at *
      generalize t.length = n at *
      generalize xp.length = pl at *
      have HO := hid (ownsRow_lit (w.alloc (.cells #[.int .u8 xk, .int .i64 xe, .int .i64 xm, .slice pa pl pc] 43)) [.int .i64 (k : Int)] 3 1 rfl (by decide))
      have hbe := hb0.alloc (by simp) (.cells #[.int .i64 (k : Int)] 3)
      go_enter Try.func29, Try.ntmps29
      go_wp2
      go_ret
      exact ⟨_, 1, rfl, owns_base (by simpa [intVals] using HO.out) (Nat.le_succ w.heap.size), hbe⟩

set_option maxHeartbeats 1000000 in
/-- the step to a part that is there -/
theorem toR_calls (t : List Ty) (v : Value) (k m : Nat) (x : Ty) (w : World) (ht : TysAt w v t) (ha : askT t k = 0) (hx : t[k]? = some x) (hm : m < (partsOf x).length) :
    Calls Try.prog 32 #[v, .int .i64 k, .int .i64 m] w (IntR (stepX t x m : Nat) w) := by
  obtain ⟨hmay, h32, hf⟩ := struct_fit ha hx
  have hfit := parts_fit ha
  rw [tyAt_some hx] at hfit
  obtain ⟨ao, cap, rfl⟩ := ht.slice
  have HT := hid ht
  obtain ⟨hk', hx'⟩ := List.getElem?_eq_some_iff.1 hx
  have HA := hid (fun wx (hb : Below w.heap.size w wx) => (HT.out.below hb).at k hk')
  rw [hx'] at HA
  have hs : x.kind = 4 ∨ x.kind = 5 := by
    by_cases h4 : x.kind = 4
    · exact .inl h4
    by_cases h5 : x.kind = 5
    · exact .inr h5
    rw [partsOf_other h4 h5] at hm; simp at hm
  rcases hs with h4 | h5
  · have hst : stepX t x m = (flatAll t (x.parts.take m)).length := by unfold stepX; rw [if_neg (by omega), partsOf_struct h4]
    rw [hst]
    rw [partsOf_struct h4] at hm hfit
    have HTK := hid (fun i (h : i < x.parts.length) => congrArg List.length (flatAll_take t h))
    have HOF := hid (fun i (h : i < x.parts.length) wx (hb : Below w.heap.size w wx) => by
      have h1 := (hfit _ (List.getElem_mem h)).1
      have := flatR_any (x.parts[i].toNat + 1) t _ x.parts[i].toNat wx (HT.out.below hb) (by omega) (by rw [Int.toNat_of_nonneg h1.1]; exact h1)
      rw [Int.toNat_of_nonneg h1.1] at this
      exact this)
    have HB := hid (fun i => Nat.le_trans (fall_part t x.parts i) (fall_fit fun p hp => (hfit p hp).1))
    have hcl : (cellsAll t x.parts).length ≤ 32 := by
      rw [cellsOf_parts hx (.inl h4) (mayX_low hmay), partsOf_struct h4] at h32; exact h32
    have e5 : (x.kind == 5) = false := by simp; omega
    clear ht hst hmay hfit hx hx' ha hf h32
    obtain ⟨xk, xe, xm, xp⟩ := x
    simp only at *
    subst h4
    generalize t.length = tn at *
    obtain ⟨tb0, off0, hao0, hlt0, pv0, d0, d1, d2, d3, hp0⟩ := HA.out w (Below.refl _ _)
    subst hao0
    clear d1 d2 d3 hp0
    go_enter Try.func32, Try.ntmps32
    go_wp2
    go_loopg [7, 8] m (fun gk s iv wr => ∃ i : Nat, i + gk = m ∧ iv = .int .i64 i ∧ s = .int .i64 ((flatAll t (xp.take i)).length : Nat) ∧ Below w.heap.size w wr)
    case atStart => exact ⟨0, by omega, rfl, by simp [flatAll], Below.refl _ _⟩
    case round =>
      obtain ⟨i, hi, rfl, rfl, hbe⟩ := hrel
      have HI := hid hi
      by_cases hlt2 : i < m
      · obtain ⟨tb, off, hao, hlt, pv, c0, c1, c2, c3, hp⟩ := HA.out wr hbe
        cases hao
        obtain ⟨pa, pc, rfl, hpl⟩ := ints_slice hp
        have hil : i < xp.length := by omega
        obtain ⟨b, o, rfl, hbs, hc⟩ := ints_at hp i hil
        have HC := hid (HOF.out i hil wr hbe)
        have HTI := hid (HTK.out i hil)
        rw [List.length_append] at HTI
        have hb1 := HB.out (i + 1)
        rw [HTI.out] at hb1
        clear hi hp c0 c1 c2
        generalize xp[i] = p at *
        generalize flatOf t p.toNat = fo at *
        generalize (flatAll t (xp.take i)).length = sm at *
        go_wp2_with fail
        refine HC.out.mono ?_
        rintro e w1 ⟨u, mm, rfl, hu, hb2⟩
        obtain rfl := own_len hu
        obtain ⟨ua, uc, rfl⟩ := own_slice hu
        have hbe1 := hbe.trans (hb2.mono hbe.size)
        clear hu hb2
        go_wp2
        go_roundg (gk - 1)
        case measure => have := HI.out; omega
        case rel => exact ⟨i + 1, by have := HI.out; omega, by go_num, by rw [HTI.out]; go_num, hbe1⟩
      · obtain rfl : i = m := by omega
        go_wp2
        go_ret
        exact ⟨rfl, hbe⟩
  · have hst : stepX t x m = 0 := by unfold stepX; rw [if_pos h5]
    rw [hst]
    obtain ⟨tb0, off0, hao0, hlt0, pv0, d0, d1, d2, d3, hp0⟩ := HA.out w (Below.refl _ _)
    subst hao0
    clear d1 d2 d3 hp0 ht hst hmay hfit hx hx' ha hf h32 HA HT hm
    obtain ⟨xk, xe, xm, xp⟩ := x
    simp only at *
    subst h5
    generalize t.length = tn at *
    go_enter Try.func32, Try.ntmps32
    go_wp2
    go_ret
    exact ⟨rfl, Below.refl _ _⟩
end Go.Proofs.Ytindpgejnaofkaa.FlR
