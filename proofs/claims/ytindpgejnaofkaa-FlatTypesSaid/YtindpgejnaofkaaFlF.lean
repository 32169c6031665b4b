/- Walks over flat.size, flat.holder and flat.Step. -/
import Derived.Test.YtindpgejnaofkaaFlX
namespace Go.Proofs.Ytindpgejnaofkaa.FlF
open Go.RowKit Go.Lib Go.Shelf SetP IntO TyM TyP TyB TyC TyD TyE TyS TyF TyH TyK TyW TyRT TyRC FlM FlP FlQ FlW FlX Fresh

set_option maxHeartbeats 400000 in
theorem size_calls (t : List Ty) (v : Value) (k : Int) (w : World) (ht : TysAt w v t) :
    Calls Try.prog 24 #[v, .int .i64 k] w (IntR ((listT t k).length : Nat) w) := by
  have HC := hid (cells_calls t v k w ht)
  obtain ⟨to, tcap, rfl⟩ := ht.slice
  clear ht
  generalize t.length = tn at *
  generalize listT t k = l at *
  generalize askT t k = er at *
  go_enter Try.func24, Try.ntmps24
  go_wp2_with fail
  refine HC.out.mono ?_
  rintro e w1 ⟨cv, rfl, hcv, hb1⟩
  obtain ⟨ca, cc, rfl, _⟩ := ints_slice hcv
  clear hcv
  go_wp2
  go_ret
  exact ⟨rfl, hb1⟩

/-- where a part begins -/
def offN (t : List Ty) (l : List Int) (n : Nat) : Nat := (cellsAll t (l.take n)).length
theorem offN_zero (t : List Ty) (l : List Int) : offN t l 0 = 0 := by simp [offN, cellsAll]
/-- the part that has a cell -/
def Holds (t : List Ty) (l : List Int) (c n : Nat) : Prop := n < l.length ∧ offN t l n ≤ c ∧ ∀ j, n < j → j < l.length → c < offN t l j
def HolderR (t : List Ty) (l : List Int) (c : Nat) (w : World) (e : Ending) (w' : World) : Prop :=
  ∃ n : Nat, e = .returned (.tuple #[.int .i64 n, .int .i64 (offN t l n : Nat)]) ∧ Holds t l c n ∧ Below w.heap.size w w'
theorem struct_part {t : List Ty} {k : Nat} {x : Ty} (ha : askT t k = 0) (hx : t[k]? = some x) (h4 : x.kind = 4) {n : Nat} (hn : n < x.parts.length) : partE t k n = 0 ∧ offT t k n = (offN t x.parts n : Nat) ∧ partT t k n = x.parts[n] := by
  have hp : partE t k n = 0 := partE_in ha (by rw [tyAt_some hx, partsOf_struct h4]; omega)
  refine ⟨hp, ?_, ?_⟩
  · unfold offT offN
    rw [if_pos hp, tyAt_some hx, partsOf_struct h4, Int.toNat_natCast]
  · unfold partT
    rw [if_pos hp, tyAt_some hx, partsOf_struct h4, Int.toNat_natCast, List.getElem?_eq_getElem hn, Option.getD_some]

set_option maxHeartbeats 1000000 in
theorem holder_calls (t : List Ty) (v : Value) (k c : Nat) (x : Ty) (w : World) (ht : TysAt w v t) (ha : askT t k = 0) (hx : t[k]? = some x) (h4 : x.kind = 4) (hc9 : c ≤ 100000) :
    Calls Try.prog 22 #[v, .int .i64 k, .int .i64 c] w (HolderR t x.parts c w) := by
  have hkn := (List.getElem?_eq_some_iff.1 hx).1
  obtain ⟨h1, h8, _⟩ : 1 ≤ x.parts.length ∧ x.parts.length ≤ 8 ∧ True := by
    obtain ⟨_, _, n, y, hkn2, hy, hm, _⟩ := askT_some ha
    obtain rfl : k = n := by omega
    rw [hx] at hy; cases hy
    have := mayX_struct hm h4
    exact ⟨this.1, this.2.1, trivial⟩
  have HO := hid (fun (n : Nat) (hn : n < x.parts.length) wx (hb : Below w.heap.size w wx) => by
    have h := offset_calls t v k n wx (ht.below hb)
    rw [(struct_part ha hx h4 hn).1, (struct_part ha hx h4 hn).2.1] at h
    exact h)
  have HZ := hid (offN_zero t x.parts)
  obtain ⟨to, tcap, rfl⟩ := ht.slice
  obtain ⟨hk', hx'⟩ := List.getElem?_eq_some_iff.1 hx
  obtain ⟨tb, off, rfl, hlt, pv, c0, c1, c2, c3, hp⟩ := ht.at k hkn
  rw [hx'] at hp
  obtain ⟨pa, pc, rfl, hpl⟩ := ints_slice hp
  clear ht ha hx hx' hk' c0 c1 c2 hp
  generalize hgo : offN t x.parts = O at *
  obtain ⟨pl, hple⟩ : ∃ pl, x.parts.length = pl := ⟨_, rfl⟩
  have HPL := hid hple
  rw [hple] at h1 h8 c3 HO hpl
  have HGO := hid hgo
  clear hple hgo
  generalize t.length = tn at *
  go_enter Try.func22, Try.ntmps22
  go_wp2
  go_loopg [8] pl (fun gk i wr => ∃ n : Nat, n + 1 = gk ∧ i = .int .i64 n ∧ n < pl ∧ (∀ j, n < j → j < pl → c < O j) ∧ Below w.heap.size w wr)
  case atStart => exact ⟨pl - 1, by omega, by go_num, by omega, fun j h1 h2 => by omega, Below.refl _ _⟩
  case round =>
    obtain ⟨n, hgk, rfl, hn, hall, hbe⟩ := hrel
    have HA := hid hall
    have HGK := hid hgk
    clear hall hgk
    by_cases h0 : 0 < n
    · have HO1 := hid (HO.out n hn wr hbe)
      have h0i : (0 : Int) < n := by omega
      by_cases hle : O n ≤ c
      · have HR : Hid (Holds t x.parts c n) := ⟨by rw [HPL.out]; exact hn, by rw [HGO.out]; exact hle, fun j h1 h2 => by rw [HGO.out]; exact HA.out j h1 (by rw [← HPL.out]; exact h2)⟩
        have HON : Hid (offN t x.parts n = O n) := by show _ = _; rw [HGO.out]
        have hle2 : ((O n : Nat) : Int) ≤ (c : Int) := by omega
        clear HA hle
        generalize O n = a at *
        go_wp2_with fail
        refine HO1.out.mono ?_
        rintro e w1 ⟨rfl, hb1⟩
        have hbe1 := hbe.trans (hb1.mono hbe.size)
        clear hb1 hbe
        go_wp2
        go_ret2
        exact ⟨n, by rw [HON.out]; rfl, HR.out, hbe1⟩
      · have hle2 : ¬ ((O n : Nat) : Int) ≤ (c : Int) := by omega
        have HA2 : Hid (∀ j, n - 1 < j → j < pl → c < O j) := fun j h1 h2 => by
          by_cases e : j = n
          · subst e; omega
          · exact HA.out j (by omega) h2
        clear HA hle
        generalize O n = a at *
        go_wp2_with fail
        refine HO1.out.mono ?_
        rintro e w1 ⟨rfl, hb1⟩
        have hbe1 := hbe.trans (hb1.mono hbe.size)
        clear hb1 hbe
        go_wp2
        go_roundg (gk - 1)
        case measure => have := HGK.out; omega
        case rel => exact ⟨n - 1, by have := HGK.out; omega, by go_num, by omega, HA2.out, hbe1⟩
    · obtain rfl : n = 0 := by omega
      have HR : Hid (Holds t x.parts c 0) := ⟨by rw [HPL.out]; exact hn, by rw [HGO.out, HZ.out]; omega, fun j h1 h2 => by rw [HGO.out]; exact HA.out j h1 (by rw [← HPL.out]; exact h2)⟩
      clear HA
      go_wp2
      go_ret2
      exact ⟨0, by rw [HGO.out, HZ.out]; rfl, HR.out, hbe⟩

theorem struct_fit {t : List Ty} {k : Nat} {x : Ty} (ha : askT t k = 0) (hx : t[k]? = some x) : mayX t k x = true ∧ (cellsOf t k).length ≤ 32 ∧ Fit t k := by
  have hf := ask_fit ha
  obtain ⟨_, _, n, y, hkn, hy, hm, hc⟩ := askT_some ha
  obtain rfl : k = n := by omega
  rw [hx] at hy; cases hy
  exact ⟨hm, hc, hf⟩

set_option maxHeartbeats 1000000 in
theorem step_calls (t : List Ty) (v : Value) (k n : Int) (w : World) (ht : TysAt w v t) :
    Calls Try.prog 10 #[v, .int .i64 k, .int .i64 n] w (IntER (stepTy t k n) (partE t k n) w) := by
  have HC := hid (part_calls t v k n w ht)
  have HI : Hid (stepTy t k n = if partE t k n = 0 then ((stepX t (tyAt t k) n.toNat : Nat) : Int) else 0) := rfl
  have HT := hid ht
  obtain ⟨to, tcap, rfl⟩ := ht.slice
  rw [HI.out]
  clear HI
  by_cases h0 : partE t k n = 0
  · rw [if_pos h0, h0]
    rw [h0] at HC
    obtain ⟨ha, hn0, hn1⟩ := partE_zero h0
    obtain ⟨_, hlows, q, x, rfl, hx, hm, _⟩ := askT_some ha
    obtain ⟨m, rfl⟩ : ∃ m : Nat, n = m := ⟨n.toNat, by omega⟩
    rw [tyAt_some hx] at hn1 ⊢
    rw [Int.toNat_natCast]
    obtain ⟨hk', hx'⟩ := List.getElem?_eq_some_iff.1 hx
    have HA := hid (fun wx (hb : Below w.heap.size w wx) => (HT.out.below hb).at q hk')
    rw [hx'] at HA
    have hs : x.kind = 4 ∨ x.kind = 5 := by
      by_cases h4 : x.kind = 4
      · exact .inl h4
      by_cases h5 : x.kind = 5
      · exact .inr h5
      rw [partsOf_other h4 h5] at hn1; simp at hn1; omega
    have HFIT := hid (fun p hp => (fit_part hk' hm (hlows.mono (by omega)) p hp).1)
    have H8 := hid (fun h4 => (mayX_struct hm h4).2.1)
    generalize partT t q m = pt at *
    rcases hs with h4 | h5
    · have hst : stepX t x m = (flatAll t (x.parts.take m)).length := by unfold stepX; rw [if_neg (by omega), partsOf_struct h4]
      rw [hst]
      rw [partsOf_struct h4] at hn1 HFIT
      have h8 := H8.out h4
      have HMY := hid (fun wx pv (hb : Below w.heap.size w wx) (hp : IntsAt wx pv (x.parts.take m)) => many_calls t _ pv (x.parts.take m) wx (HT.out.below hb) hp (by rw [List.length_take]; omega) (fun p hp => HFIT.out p (List.mem_of_mem_take hp)))
      have e5 : (x.kind == 5) = false := by simp; omega
      clear ht HT HFIT hst hm hx hx' h0 ha H8
      generalize t.length = tn at *
      generalize (flatAll t (x.parts.take m)).length = tot at *
      go_enter Try.func10, Try.ntmps10
      go_wp2_with fail
      refine HC.out.mono ?_
      rintro e w1 ⟨rfl, hb1⟩
      obtain ⟨tb, off, rfl, hlt, pv, c0, c1, c2, c3, hp⟩ := HA.out w1 hb1
      obtain ⟨pa, pc, rfl, hpl⟩ := ints_slice hp
      have hcap := ints_cap hp
      have HM1 := hid (HMY.out w1 _ hb1 (ints_take hp m (by omega)))
      clear hp HA HMY
      generalize x.parts.length = pl at *
      go_wp2_with fail
      refine HM1.out.mono ?_
      rintro e w2 ⟨rfl, hb2⟩
      have hbe := hb1.trans (hb2.mono hb1.size)
      clear hb1 hb2
      go_wp2
      go_ret2
      exact ⟨rfl, hbe⟩
    · have hst : stepX t x m = 0 := by unfold stepX; rw [if_pos h5]
      rw [hst]
      clear ht HT HFIT hst hm hx hx' h0 ha H8 hn1
      generalize t.length = tn at *
      obtain ⟨xk, xe, xm, xp⟩ := x
      simp only at *
      subst h5
      go_enter Try.func10, Try.ntmps10
      go_wp2_with fail
      refine HC.out.mono ?_
      rintro e w1 ⟨rfl, hb1⟩
      obtain ⟨tb, off, rfl, hlt, pv, c0, c1, c2, c3, hp⟩ := HA.out w1 hb1
      clear hp HA
      go_wp2
      go_ret2
      exact ⟨rfl, hb1⟩
  · rw [if_neg h0]
    have hne : (partE t k n != 0) = true := by simpa using h0
    clear HT ht h0
    generalize partE t k n = er at *
    generalize partT t k n = pt at *
    go_enter Try.func10, Try.ntmps10
    go_wp2_with fail
    refine HC.out.mono ?_
    rintro e w1 ⟨rfl, hb1⟩
    go_wp2
    go_ret2
    exact ⟨rfl, hb1⟩
end Go.Proofs.Ytindpgejnaofkaa.FlF
