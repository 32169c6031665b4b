/- Walks over types.findPart, types.Part and types.Offset. -/
import Derived.Test.YtindpgejnaofkaaTyF
namespace Go.Proofs.Ytindpgejnaofkaa.TyH
open Go.RowKit Go.Lib SetP IntO TyM TyP TyB TyC TyD TyE TyS TyF

/-- a bool, or a number, and an error -/
def BoolER (b : Bool) (er : Int) (w : World) (e : Ending) (w' : World) : Prop := e = .returned (.tuple #[.bool b, .int .i64 er]) ∧ Below w.heap.size w w'
def IntER (n : Int) (er : Int) (w : World) (e : Ending) (w' : World) : Prop := e = .returned (.tuple #[.int .i64 n, .int .i64 er]) ∧ Below w.heap.size w w'
def IntsER (l : List Int) (er : Int) (w : World) (e : Ending) (w' : World) : Prop := ∃ v, e = .returned (.tuple #[v, .int .i64 er]) ∧ IntsAt w' v l ∧ Below w.heap.size w w'

theorem partE_err {t : List Ty} {k n : Int} (h : askT t k ≠ 0) : partE t k n = askT t k := by unfold partE; rw [if_neg h]
theorem partE_in {t : List Ty} {k n : Int} (h : askT t k = 0) (hn : 0 ≤ n ∧ n < (partsOf (tyAt t k)).length) : partE t k n = 0 := by unfold partE; rw [if_pos h, if_pos hn]
theorem partE_out {t : List Ty} {k n : Int} (h : askT t k = 0) (hn : ¬ (0 ≤ n ∧ n < (partsOf (tyAt t k)).length)) : partE t k n = 2 := by unfold partE; rw [if_pos h, if_neg hn]
theorem partE_zero {t : List Ty} {k n : Int} (h : partE t k n = 0) : askT t k = 0 ∧ 0 ≤ n ∧ n < (partsOf (tyAt t k)).length := by
  unfold partE at h
  by_cases h1 : askT t k = 0
  · rw [if_pos h1] at h
    by_cases h2 : 0 ≤ n ∧ n < (partsOf (tyAt t k)).length
    · exact ⟨h1, h2⟩
    · rw [if_neg h2] at h; omega
  · rw [if_neg h1] at h; exact absurd h h1
/-- the parts of a type that has such a one -/
def partsT (t : List Ty) (k n : Int) : List Int := if partE t k n = 0 then partsOf (tyAt t k) else []
theorem tyAt_some {t : List Ty} {n : Nat} {x : Ty} (h : t[n]? = some x) : tyAt t (n : Int) = x := by unfold tyAt; rw [Int.toNat_natCast, h]; rfl
theorem array_many {t : List Ty} {k : Int} (h : askT t k = 0) (h5 : (tyAt t k).kind = 5) : 1 ≤ (tyAt t k).many ∧ (tyAt t k).many ≤ 16 := by
  obtain ⟨_, _, n, x, rfl, hx, hm, _⟩ := askT_some h
  rw [tyAt_some hx] at h5 ⊢
  have := mayX_array hm h5
  omega
theorem parts_len {t : List Ty} {k : Int} (h : askT t k = 0) : (partsOf (tyAt t k)).length ≤ 16 := by
  obtain ⟨_, _, n, x, rfl, hx, hm, _⟩ := askT_some h
  rw [tyAt_some hx]
  exact mayX_parts hm
theorem parts_fit {t : List Ty} {k : Int} (h : askT t k = 0) : ∀ p ∈ partsOf (tyAt t k), Fit t p ∧ p < t.length := by
  obtain ⟨_, hl, n, x, rfl, hx, hm, _⟩ := askT_some h
  rw [tyAt_some hx]
  have hn := (List.getElem?_eq_some_iff.1 hx).1
  intro p hp
  obtain ⟨h1, h2⟩ := fit_part hn hm (hl.mono (by omega)) p hp
  exact ⟨h1, by omega⟩

set_option maxHeartbeats 1000000 in
theorem findPart_calls (t : List Ty) (v : Value) (k n : Int) (w : World) (ht : TysAt w v t) :
    Calls Try.prog 33 #[v, .int .i64 k, .int .i64 n] w (IntsER (partsT t k n) (partE t k n) w) := by
  have HC := hid (find_calls t v k w ht)
  have HZ := hid (@find_zero t k)
  have HI : Hid (partsT t k n = if partE t k n = 0 then partsOf (tyAt t k) else []) := rfl
  clear ht
  by_cases h0 : askT t k = 0
  · have hf := HZ.out h0
    rw [hf, h0] at HC
    have HMA := hid (array_many h0)
    have hpl16 := parts_len h0
    have HIN := hid (fun hn => partE_in (n := n) h0 hn)
    have HOUT := hid (fun hn => partE_out (n := n) h0 hn)
    have HP := hid (fun pv wx hp => parts_calls (tyAt t k) pv wx hp HMA.out)
    have HB := hid (fun lv wx b (hl : IntsAt wx lv (partsOf (tyAt t k))) (h : wx.cell? ⟨b, 0, none⟩ = some (.int .i64 n)) hb => below_calls (partsOf (tyAt t k)).length (.slice (some ⟨b, 0, none⟩) 1 1) [n] wx (ints_one h hb))
    rw [low_one] at HB
    clear HZ h0 hf HMA
    generalize tyAt t k = x at *
    by_cases hn : 0 ≤ n ∧ n < (partsOf x).length
    · have he := HIN.out hn
      rw [HI.out, if_pos he, he]
      rw [decide_eq_true hn] at HB
      clear HI HIN HOUT he hn
      go_enter Try.func33, Try.ntmps33
      go_wp2_with fail
      refine HC.out.mono ?_
      rintro e w1 ⟨pv, rfl, hp, hb1⟩
      have hb2 := (Below.refl w1.heap.size w1).alloc (Nat.le_refl _) (.cells #[.int .u8 x.kind, .int .i64 x.elem, .int .i64 x.many, pv] 43)
      have HP1 := hid (HP.out pv _ (hp.below hb2))
      have hbe := hb1.trans (hb2.mono hb1.size)
      obtain ⟨pa, pc, rfl, hpl⟩ := ints_slice hp
      clear hp hb1 hb2 HP
      go_wp2_with fail
      refine HP1.out.mono ?_
      rintro e w2 ⟨lv, rfl, hlv, hb2, _⟩
      have hbe2 := hbe.trans (hb2.mono hbe.size)
      have hb3 := (Below.refl w2.heap.size w2).alloc (Nat.le_refl _) (.cells #[.int .i64 n] 3)
      have HB1 := hid (HB.out lv _ w2.heap.size (hlv.below hb3) (by simp) (by simp))
      have hbe3 := hbe2.trans (hb3.mono hbe2.size)
      have HL := hid (hlv.below hb3)
      obtain ⟨la, lc, rfl, hll⟩ := ints_slice hlv
      clear hlv hb2 hb3 HB hbe2
      generalize (partsOf x).length = pl at *
      go_wp2_with fail
      refine HB1.out.mono ?_
      rintro e w3 ⟨rfl, hb4⟩
      have hbe4 := hbe3.trans (hb4.mono hbe3.size)
      have HL2 := hid (HL.out.below hb4)
      clear hb4 hbe3
      go_wp2
      go_ret2
      exact ⟨_, rfl, HL2.out, hbe4⟩
    · have he := HOUT.out hn
      rw [HI.out, he, if_neg (by decide)]
      rw [decide_eq_false hn] at HB
      clear HI HIN HOUT he hn
      go_enter Try.func33, Try.ntmps33
      go_wp2_with fail
      refine HC.out.mono ?_
      rintro e w1 ⟨pv, rfl, hp, hb1⟩
      have hb2 := (Below.refl w1.heap.size w1).alloc (Nat.le_refl _) (.cells #[.int .u8 x.kind, .int .i64 x.elem, .int .i64 x.many, pv] 43)
      have HP1 := hid (HP.out pv _ (hp.below hb2))
      have hbe := hb1.trans (hb2.mono hb1.size)
      obtain ⟨pa, pc, rfl, hpl⟩ := ints_slice hp
      clear hp hb1 hb2 HP
      go_wp2_with fail
      refine HP1.out.mono ?_
      rintro e w2 ⟨lv, rfl, hlv, hb2, _⟩
      have hbe2 := hbe.trans (hb2.mono hbe.size)
      have hb3 := (Below.refl w2.heap.size w2).alloc (Nat.le_refl _) (.cells #[.int .i64 n] 3)
      have HB1 := hid (HB.out lv _ w2.heap.size (hlv.below hb3) (by simp) (by simp))
      have hbe3 := hbe2.trans (hb3.mono hbe2.size)
      obtain ⟨la, lc, rfl, hll⟩ := ints_slice hlv
      clear hlv hb2 hb3 HB hbe2
      generalize (partsOf x).length = pl at *
      go_wp2_with fail
      refine HB1.out.mono ?_
      rintro e w3 ⟨rfl, hb4⟩
      have hbe4 := hbe3.trans (hb4.mono hbe3.size)
      clear hb4 hbe3
      go_wp2
      go_ret2
      exact ⟨_, rfl, ints_none _, hbe4⟩
  · rw [HI.out, partE_err h0, if_neg h0]
    clear HZ HI
    generalize findT t k = x at *
    have hne : (askT t k != 0) = true := by simpa using h0
    generalize askT t k = er at *
    clear h0
    go_enter Try.func33, Try.ntmps33
    go_wp2_with fail
    refine HC.out.mono ?_
    rintro e w1 ⟨pv, rfl, hp, hb1⟩
    obtain ⟨pa, pc, rfl, hpl⟩ := ints_slice hp
    have hbe := hb1.alloc hb1.size (.cells #[.int .u8 x.kind, .int .i64 x.elem, .int .i64 x.many, .slice pa x.parts.length pc] 43)
    clear hp hb1
    go_wp2
    go_ret2
    exact ⟨_, rfl, ints_none _, hbe⟩

theorem partT_err {t : List Ty} {k n : Int} (h : partE t k n ≠ 0) : partT t k n = 0 ∧ offT t k n = 0 := ⟨if_neg h, if_neg h⟩

set_option maxHeartbeats 1000000 in
theorem part_calls (t : List Ty) (v : Value) (k n : Int) (w : World) (ht : TysAt w v t) :
    Calls Try.prog 19 #[v, .int .i64 k, .int .i64 n] w (IntER (partT t k n) (partE t k n) w) := by
  have HC := hid (findPart_calls t v k n w ht)
  have HI : Hid (partsT t k n = if partE t k n = 0 then partsOf (tyAt t k) else []) := rfl
  have HT : Hid (partT t k n = if partE t k n = 0 then ((partsOf (tyAt t k))[n.toNat]?).getD 0 else 0) := rfl
  clear ht
  by_cases h0 : partE t k n = 0
  · obtain ⟨ha, hn0, hn1⟩ := partE_zero h0
    rw [HI.out, if_pos h0, h0] at HC
    rw [HT.out, if_pos h0, h0]
    clear HI HT h0 ha
    generalize partsOf (tyAt t k) = l at *
    obtain ⟨m, rfl⟩ : ∃ m : Nat, n = m := ⟨n.toNat, by omega⟩
    have hm : m < l.length := by omega
    rw [Int.toNat_natCast, List.getElem?_eq_getElem hm, Option.getD_some]
    obtain ⟨x, hx⟩ : ∃ x, l[m] = x := ⟨_, rfl⟩
    rw [hx]
    have HX := hid hx
    clear hx
    go_enter Try.func19, Try.ntmps19
    go_wp2_with fail
    refine HC.out.mono ?_
    rintro e w1 ⟨lv, rfl, hlv, hb1⟩
    obtain ⟨la, lc, rfl, hll⟩ := ints_slice hlv
    obtain ⟨b, off, rfl, hbs, hc⟩ := ints_at hlv m hm
    rw [HX.out] at hc
    clear hlv HX
    generalize l.length = ll at *
    go_wp2
    go_ret2
    exact ⟨rfl, hb1⟩
  · rw [(partT_err h0).1]
    clear HI HT
    have hne : (partE t k n != 0) = true := by simpa using h0
    generalize partE t k n = er at *
    generalize partsT t k n = l at *
    clear h0
    go_enter Try.func19, Try.ntmps19
    go_wp2_with fail
    refine HC.out.mono ?_
    rintro e w1 ⟨lv, rfl, hlv, hb1⟩
    clear hlv
    go_wp2
    go_ret2
    exact ⟨rfl, hb1⟩

theorem ints_take {w : World} {ao : Option Addr} {n cap : Nat} {l : List Int} (h : IntsAt w (.slice ao n cap) l) (k : Nat) (hk : k ≤ l.length) : IntsAt w (.slice ao k cap) (l.take k) := by
  obtain ⟨ao', cap', hv, hl, hm, hz⟩ := h
  cases hv
  refine ⟨ao, cap, by rw [List.length_take, Nat.min_eq_left hk], by rw [List.length_take]; omega, fun h0 => ?_, hz.1, by rw [List.length_take]; have := hz.2; omega⟩
  rw [List.length_take] at h0
  obtain ⟨b, off, ha, hlt, hc⟩ := hm (by omega)
  refine ⟨b, off, ha, hlt, fun i hi => ?_⟩
  rw [List.length_take] at hi
  rw [hc i (by omega), List.getElem_take]

set_option maxHeartbeats 1000000 in
theorem offset_calls (t : List Ty) (v : Value) (k n : Int) (w : World) (ht : TysAt w v t) :
    Calls Try.prog 20 #[v, .int .i64 k, .int .i64 n] w (IntER (offT t k n) (partE t k n) w) := by
  have HC := hid (findPart_calls t v k n w ht)
  have HI : Hid (partsT t k n = if partE t k n = 0 then partsOf (tyAt t k) else []) := rfl
  have HO : Hid (offT t k n = if partE t k n = 0 then ((cellsAll t ((partsOf (tyAt t k)).take n.toNat)).length : Int) else 0) := rfl
  have HT := hid ht
  clear ht
  by_cases h0 : partE t k n = 0
  · obtain ⟨ha, hn0, hn1⟩ := partE_zero h0
    rw [HI.out, if_pos h0, h0] at HC
    rw [HO.out, if_pos h0, h0]
    have hl16 := parts_len ha
    have HF := hid (parts_fit ha)
    clear HI HO h0 ha
    generalize partsOf (tyAt t k) = l at *
    obtain ⟨m, rfl⟩ : ∃ m : Nat, n = m := ⟨n.toNat, by omega⟩
    have hm : m < l.length := by omega
    rw [Int.toNat_natCast]
    have HS := hid (fun wx lv (hw : Below w.heap.size w wx) hl => size_any t.length t v lv (l.take m) wx (HT.out.below hw) hl (by rw [List.length_take]; omega) (fun p hp => HF.out p (List.mem_of_mem_take hp)))
    obtain ⟨to, tcap, rfl⟩ := HT.out.slice
    go_enter Try.func20, Try.ntmps20
    go_wp2_with fail
    refine HC.out.mono ?_
    rintro e w1 ⟨lv, rfl, hlv, hb1⟩
    obtain ⟨la, lc, rfl, hll⟩ := ints_slice hlv
    have HS1 := hid (HS.out w1 (.slice la m lc) hb1 (ints_take hlv m (by omega)))
    have hcap := ints_cap hlv
    clear hlv HS HT HC HF
    generalize (cellsAll t (l.take m)).length = len at *
    generalize l.length = ll at *
    go_wp2_with fail
    refine HS1.out.mono ?_
    rintro e w2 ⟨rfl, hb2⟩
    have hbe := hb1.trans (hb2.mono hb1.size)
    clear hb1 hb2
    go_wp2
    go_ret2
    exact ⟨rfl, hbe⟩
  · rw [(partT_err h0).2]
    clear HI HO HT
    have hne : (partE t k n != 0) = true := by simpa using h0
    generalize partE t k n = er at *
    generalize partsT t k n = l at *
    clear h0
    go_enter Try.func20, Try.ntmps20
    go_wp2_with fail
    refine HC.out.mono ?_
    rintro e w1 ⟨lv, rfl, hlv, hb1⟩
    clear hlv
    go_wp2
    go_ret2
    exact ⟨rfl, hb1⟩
end Go.Proofs.Ytindpgejnaofkaa.TyH
