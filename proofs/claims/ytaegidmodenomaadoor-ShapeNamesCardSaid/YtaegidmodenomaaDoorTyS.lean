/- Walks over types.size and types.Check. -/
import Derived.Test.YtaegidmodenomaaDoorTyE
namespace Go.Proofs.YtaegidmodenomaaDoor.TyS
open Go.RowKit Go.Lib SetP IntO TyM TyP TyB TyC TyD TyE

/-- a number, and old memory stays -/
def IntR (n : Int) (w : World) (e : Ending) (w' : World) : Prop := e = .returned (.int .i64 n) ∧ Below w.heap.size w w'

/-- a type that may be, all below it good -/
def Fit (t : List Ty) (p : Int) : Prop := 0 ≤ p ∧ p < t.length ∧ mayB t p.toNat = true ∧ Lows t p.toNat
theorem fit_at {t : List Ty} {p : Int} (h : Fit t p) : ∃ (n : Nat) (x : Ty), p = n ∧ n < t.length ∧ t[n]? = some x ∧ mayX t n x = true ∧ Lows t n := by
  obtain ⟨h0, h1, h2, h3⟩ := h
  have hlt : p.toNat < t.length := by omega
  have hx := List.getElem?_eq_getElem hlt
  rw [mayB_at hx] at h2
  exact ⟨p.toNat, _, by omega, hlt, hx, h2, h3⟩
theorem fit_part {t : List Ty} {n : Nat} {x : Ty} (hn : n < t.length) (hm : mayX t n x = true) (hl : Lows t n) : ∀ p ∈ partsOf x, Fit t p ∧ p < n := by
  intro p hp
  have := mayX_low hm p hp
  obtain ⟨y, hy, hmy, _⟩ := goodB_iff.1 (hl p.toNat (by omega))
  exact ⟨⟨this.1, by omega, by rw [mayB_at hy]; exact hmy, hl.mono (by omega)⟩, this.2⟩
theorem len_cells {t : List Ty} {n : Nat} {x : Ty} (hx : t[n]? = some x) (hm : mayX t n x = true) : (cellsOf t n).length = (if scalarK x.kind = true then 1 else 0) + (cellsAll t (partsOf x)).length := by
  cases hs : scalarK x.kind with
  | true => rw [cellsOf_scalar hx hs, partsOf_scalar hs]; simp [cellsAll]
  | false =>
    rcases mayX_kind hm with h | h
    · rw [hs] at h; cases h
    · rw [cellsOf_parts hx h (mayX_low hm)]; simp
theorem len_parts {t : List Ty} {n : Nat} {x : Ty} (hm : mayX t n x = true) (hl : Lows t n) : (cellsAll t (partsOf x)).length ≤ 512 := by
  have := lows_cells hl (mayX_low hm)
  have := mayX_parts hm
  omega
theorem len_fit {t : List Ty} {p : Int} (h : Fit t p) : (cellsOf t p.toNat).length ≤ 513 := by
  obtain ⟨n, x, rfl, hlt, hx, hm, hl⟩ := fit_at h
  rw [Int.toNat_natCast, len_cells hx hm]
  have := len_parts hm hl
  split <;> omega
theorem len_fits {t : List Ty} {l : List Int} (h : ∀ p ∈ l, Fit t p) : (cellsAll t l).length ≤ l.length * 513 := cellsAll_length t 513 l fun p hp => len_fit (h p hp)

set_option maxHeartbeats 2000000 in
theorem size_any (B : Nat) : ∀ (t : List Ty) (v va : Value) (l : List Int) (w : World), TysAt w v t → IntsAt w va l → l.length ≤ 16 → (∀ p ∈ l, Fit t p ∧ p < B) →
    Calls Tryd.prog 66 #[v, va] w (IntR ((cellsAll t l).length : Nat) w) := by
  induction B with
  | zero =>
    intro t v va l w ht hl hlen hf
    obtain rfl : l = [] := by
      cases l with
      | nil => rfl
      | cons p l => obtain ⟨⟨h0, _⟩, h1⟩ := hf p (by simp); omega
    obtain ⟨ao, cap, rfl, _⟩ := ints_slice hl
    clear hl hf ht
    go_enter Tryd.func66, Tryd.ntmps66
    go_wp2
    go_loop [5, 10] (fun m i => m = .int .i64 0 ∧ i = .int .i64 0) (fun _ _ => 0)
    case atStart => exact ⟨rfl, rfl⟩
    case round =>
      obtain ⟨rfl, rfl⟩ := hrel
      go_wp2
      go_ret
      exact ⟨rfl, Below.refl _ _⟩
  | succ B ih =>
    intro t v va l w ht hl hlen hf
    have IH := hid ih
    have HT := hid ht
    have HL := hid hl
    have HF := hid hf
    have HN := hid (fun k => len_fits (t := t) (l := l.take k) fun p hp => (hf p (List.mem_of_mem_take hp)).1)
    obtain ⟨ao, cap, rfl, hll⟩ := ints_slice hl
    obtain ⟨to, tcap, rfl⟩ := ht.slice
    clear ih ht hl hf
    go_enter Tryd.func66, Tryd.ntmps66
    go_wp2
    go_loopg [5, 10] l.length (fun gk m i wr => ∃ k : Nat, k + gk = l.length ∧ i = .int .i64 k ∧ m = .int .i64 ((cellsAll t (l.take k)).length : Nat) ∧ Below w.heap.size w wr)
    case atStart => exact ⟨0, by omega, rfl, rfl, Below.refl _ _⟩
    case round =>
      obtain ⟨k, hk, rfl, rfl, hbe⟩ := hrel
      have HK := hid hk
      by_cases hlt : k < l.length
      · obtain ⟨b, off, rfl, hbs, hc⟩ := ints_at (HL.out.below hbe) k hlt
        obtain ⟨hfit, hB⟩ := HF.out _ (List.getElem_mem hlt)
        have HS : Hid ((cellsAll t (l.take (k + 1))).length = (cellsAll t (l.take k)).length + (cellsOf t l[k].toNat).length) := by show _ = _; rw [cellsAll_take t hlt, List.length_append]
        have hn := HN.out k
        rw [List.length_take] at hn
        have hn2 : (cellsAll t (l.take k)).length ≤ 10000 := by omega
        clear hn hk
        generalize l[k] = p at *
        generalize (cellsAll t (l.take k)).length = many at *
        obtain ⟨n, x, rfl, hnt, hx, hm, hlow⟩ := fit_at hfit
        rw [Int.toNat_natCast] at HS
        have hlp := len_parts hm hlow
        have HLC := hid (len_cells hx hm)
        obtain ⟨tb, toff, rfl, htb, pv, c0, c1, c2, c3, hp⟩ := (HT.out.below hbe).at n hnt
        have hxe : t[n] = x := by rw [List.getElem?_eq_getElem hnt] at hx; exact Option.some.inj hx
        rw [hxe] at c0 c1 c2 hp
        have HSC := hid (scalar_calls x pv wr)
        have HPC := hid (fun w1 (hb : Below wr.heap.size wr w1) => parts_calls x pv w1 (hp.below hb) (fun h5 => ⟨(mayX_array hm h5).1, (mayX_array hm h5).2.1⟩))
        have HSZ := hid (fun w1 v' hw h2 => IH.out t (.slice (some ⟨tb, toff, none⟩) t.length tcap) v' (partsOf x) w1 (HT.out.below hw) h2 (mayX_parts hm) (fun q hq => ⟨(fit_part hnt hm hlow q hq).1, by have := (fit_part hnt hm hlow q hq).2; omega⟩))
        obtain ⟨pa, pc, rfl, hpl⟩ := ints_slice hp
        clear hp hfit hB hxe hx hm hlow
        generalize (cellsAll t (partsOf x)).length = add at *
        generalize (cellsOf t n).length = tot at *
        cases hs : scalarK x.kind <;>
        · rw [hs] at HSC HLC
          clear hs
          go_wp2_with fail
          refine HSC.out.mono ?_
          rintro e w1 ⟨rfl, hb1⟩
          have hbe1 := hbe.trans (hb1.mono hbe.size)
          have HP1 := hid (HPC.out w1 hb1)
          have hcc := bcell hb1
          clear hb1 HPC HSC
          go_wp2_with fail
          refine HP1.out.mono ?_
          rintro e w2 ⟨v2, rfl, hv2, hb2, _⟩
          have hbe2 := hbe1.trans (hb2.mono hbe1.size)
          have HS2 := hid (HSZ.out w2 v2 hbe2 hv2)
          clear hb2 hcc hv2 hbe1
          go_wp2_with fail
          refine HS2.out.mono ?_
          rintro e w3 ⟨rfl, hb3⟩
          have hbe3 := hbe2.trans (hb3.mono hbe2.size)
          clear hb3 hbe2
          go_wp2
          go_roundg (gk - 1)
          case measure => have := HK.out; omega
          case rel => exact ⟨k + 1, by have := HK.out; omega, by go_num, by have h1 := HS.out; have h2 := HLC.out; simp at h2; rw [h1, h2]; go_num, hbe3⟩
      · obtain rfl : k = l.length := by omega
        rw [List.take_length]
        go_wp2
        go_ret
        exact ⟨rfl, hbe⟩

theorem len_one (t : List Ty) (n : Nat) : (cellsAll t [(n : Int)]).length = (cellsOf t n).length := by rw [cellsAll_cons, cellsAll_nil, List.append_nil, Int.toNat_natCast]
theorem good_no {t : List Ty} {k : Nat} {x : Ty} (hx : t[k]? = some x) (h : mayX t k x = false) : goodB t k = false := by unfold goodB; rw [mayB_at hx, h]; rfl
theorem good_big {t : List Ty} {k : Nat} (h : 32 < (cellsOf t k).length) : goodB t k = false := by unfold goodB; simp; intro _; omega
theorem good_yes {t : List Ty} {k : Nat} {x : Ty} (hx : t[k]? = some x) (h : mayX t k x = true) (hc : (cellsOf t k).length ≤ 32) : goodB t k = true := by unfold goodB; rw [mayB_at hx, h]; simpa using hc
theorem lows_succ {t : List Ty} {k : Nat} (h : Lows t k) (hg : goodB t k = true) : Lows t (k + 1) := fun j hj => by
  by_cases e : j = k
  · rw [e]; exact hg
  · exact h j (by omega)

set_option maxHeartbeats 1000000 in
theorem check_calls (t : List Ty) (v : Value) (w : World) (ht : TysAt w v t) : Calls Tryd.prog 37 #[v] w (IntR (chkT t) w) := by
  have HT := hid ht
  obtain ⟨to, tcap, rfl⟩ := ht.slice
  clear ht
  by_cases hmany : 16 < t.length
  · rw [chkT_many hmany]
    generalize t.length = n at *
    go_enter Tryd.func37, Tryd.ntmps37
    go_wp2
    go_ret
    exact ⟨rfl, Below.refl _ _⟩
  · have hlen : t.length ≤ 16 := by omega
    have hle : ¬ (16 : Int) < t.length := by omega
    clear hmany
    go_enter Tryd.func37, Tryd.ntmps37
    go_wp2
    go_loopg [9] t.length (fun gk i wr => ∃ k : Nat, k + gk = t.length ∧ i = .int .i64 k ∧ Lows t k ∧ Below w.heap.size w wr)
    case atStart => exact ⟨0, by omega, rfl, fun j hj => absurd hj (by omega), Below.refl _ _⟩
    case round =>
      obtain ⟨k, hk, rfl, hlow, hbe⟩ := hrel
      have HK := hid hk
      have HLOW := hid hlow
      by_cases hlt : k < t.length
      · have hx := List.getElem?_eq_getElem hlt
        have HM := hid (may_calls t _ k _ wr (HT.out.below hbe) hx)
        have HX := hid hx
        generalize t[k] = x at *
        have HSZ := hid (fun (hm : mayX t k x = true) wx b (hw : Below w.heap.size w wx) (hc : wx.cell? ⟨b, 0, none⟩ = some (.int .i64 (k : Int))) hb => size_any (k + 1) t _ (.slice (some ⟨b, 0, none⟩) 1 1) [(k : Int)] wx (HT.out.below hw) (ints_one hc hb) (by simp) (fun p hp => by
          obtain rfl := List.mem_singleton.1 hp
          exact ⟨⟨by omega, by omega, by rw [Int.toNat_natCast, mayB_at HX.out]; exact hm, HLOW.out⟩, by omega⟩))
        have HFIT := hid (fun (hm : mayX t k x = true) => len_fit (t := t) (p := (k : Int)) ⟨by omega, by omega, by rw [Int.toNat_natCast, mayB_at HX.out]; exact hm, HLOW.out⟩)
        clear hx hlow hk
        cases hm : mayX t k x with
        | false =>
          rw [hm] at HM
          have HE := hid (chkT_bad hlen hlt (good_no HX.out hm))
          clear hm HSZ HFIT
          generalize t.length = n at *
          go_wp2_with fail
          refine HM.out.mono ?_
          rintro e w1 ⟨rfl, hb1⟩
          have hbe1 := hbe.trans (hb1.mono hbe.size)
          clear hb1
          go_wp2
          go_ret
          exact ⟨by rw [HE.out]; rfl, hbe1⟩
        | true =>
          rw [hm] at HM
          have HS2 := hid (HSZ.out hm)
          have hfit := HFIT.out hm
          have HY := hid (fun h => lows_succ HLOW.out (good_yes HX.out hm h))
          have HE := hid (fun (h : 32 < (cellsOf t k).length) => chkT_bad hlen hlt (good_big h))
          rw [len_one] at HS2
          rw [Int.toNat_natCast] at hfit
          clear hm HSZ HFIT
          generalize (cellsOf t k).length = cn at *
          generalize t.length = n at *
          go_wp2_with fail
          refine HM.out.mono ?_
          rintro e w1 ⟨rfl, hb1⟩
          have hbe1 := (hbe.trans (hb1.mono hbe.size)).alloc (by have := hbe.size; have := hb1.size; omega) (.cells #[.int .i64 (k : Int)] 3)
          have HS3 := hid (HS2.out (w1.alloc (.cells #[.int .i64 (k : Int)] 3)) w1.heap.size hbe1 (by simp) (by simp))
          clear hb1 HS2
          by_cases hbig : 32 < cn
          · have hbi : (32 : Int) < cn := by omega
            have HE2 := hid (HE.out hbig)
            clear HE HY hbig
            go_wp2_with fail
            refine HS3.out.mono ?_
            rintro e w2 ⟨rfl, hb2⟩
            have hbe2 := hbe1.trans (hb2.mono hbe1.size)
            clear hb2
            go_wp2
            go_ret
            exact ⟨by rw [HE2.out]; rfl, hbe2⟩
          · have hbi : ¬ (32 : Int) < cn := by omega
            have HY2 := hid (HY.out (by omega))
            clear HE HY hbig
            go_wp2_with fail
            refine HS3.out.mono ?_
            rintro e w2 ⟨rfl, hb2⟩
            have hbe2 := hbe1.trans (hb2.mono hbe1.size)
            clear hb2
            go_wp2
            go_roundg (gk - 1)
            case measure => have := HK.out; omega
            case rel => exact ⟨k + 1, by have := HK.out; omega, by go_num, HY2.out, hbe2⟩
      · obtain rfl : k = t.length := by omega
        have HE := hid (chkT_ok hlen hlow)
        clear hlow
        generalize t.length = n at *
        go_wp2
        go_ret
        exact ⟨by rw [HE.out]; rfl, hbe⟩
end Go.Proofs.YtaegidmodenomaaDoor.TyS
