/- Plain facts on flat fields: what the laws say. -/
import Derived.Test.YtindpgejnaofkaaFlM
namespace Go.Proofs.Ytindpgejnaofkaa.FlN
open Go.RowKit Go.Lib TyM TyS TyH TyRC TyN FlM

theorem flatC_in {t : List Ty} {k c : Int} (h : flatE t k c = 0) : flatC t k c = (flatAt t k.toNat c.toNat : Nat) := if_pos h
/-- a flat field, by numbers -/
theorem field_nat {t : List Ty} {k c : Int} (h : flatE t k c = 0) : ∃ q d : Nat, k = q ∧ c = d ∧ askT t q = 0 ∧ Fit t q ∧ (cellsOf t q).length ≤ 32 ∧ listT t k = cellsOf t q ∧ flatT t k = flatOf t q ∧ d < (cellsOf t q).length ∧ flatC t k c = (flatAt t q d : Nat) := by
  obtain ⟨ha, h0, h1⟩ := flatE_zero h
  have hf := ask_fit ha
  have hl := (list_at ha).1
  have ht : flatT t k = flatOf t k.toNat := if_pos ha
  have hc := flatC_in h
  obtain ⟨_, _, q, x, rfl, hx, hm, h32⟩ := askT_some ha
  obtain ⟨d, rfl⟩ : ∃ d : Nat, c = d := ⟨c.toNat, by omega⟩
  rw [Int.toNat_natCast] at hl ht hc
  rw [Int.toNat_natCast] at hc
  rw [hl] at h1
  exact ⟨q, d, rfl, rfl, ha, hf, h32, hl, ht, by omega, hc⟩
theorem field_bound {t : List Ty} {k c : Int} : 0 ≤ flatC t k c ∧ flatC t k c ≤ 32 := by
  by_cases h : flatE t k c = 0
  · obtain ⟨q, d, rfl, rfl, ha, hf, h32, _, _, hd, hc⟩ := field_nat h
    have h1 := (at_type (q + 1) q (by omega) hf d hd).1
    have h2 := (flat_le (q + 1) q (by omega) hf).2
    rw [hc]; omega
  · unfold flatC; rw [if_neg h]; omega
theorem field_two {t : List Ty} {k c : Int} (ha : askT t k = 0) (h : flatE t k c ≠ 0) : flatE t k c = 2 := by
  unfold flatE at h ⊢
  rw [if_pos ha] at h ⊢
  by_cases hc : 0 ≤ c ∧ c < (listT t k).length
  · rw [if_pos hc] at h; exact absurd rfl h
  · rw [if_neg hc]
theorem step_bound {t : List Ty} {k n : Int} : 0 ≤ stepTy t k n ∧ stepTy t k n ≤ 32 := by
  unfold stepTy
  by_cases h : partE t k n = 0
  · rw [if_pos h]
    obtain ⟨ha, hn0, hn1⟩ := partE_zero h
    have hfp := parts_fit ha
    obtain ⟨_, _, q, x, rfl, hx, hm, h32⟩ := askT_some ha
    rw [tyAt_some hx] at hn1 hfp ⊢
    unfold stepX
    split
    · omega
    · rename_i h5
      have h4 : x.kind = 4 := by
        by_cases h4 : x.kind = 4
        · exact h4
        · rw [partsOf_other h4 h5] at hn1; simp at hn1; omega
      rw [cellsOf_parts hx (.inl h4) (mayX_low hm)] at h32
      have h1 : (flatAll t ((partsOf x).take n.toNat)).length ≤ (flatAll t (partsOf x)).length := by
        have h2 : flatAll t (partsOf x) = flatAll t ((partsOf x).take n.toNat) ++ flatAll t ((partsOf x).drop n.toNat) := by rw [← flatAll_append, List.take_append_drop]
        rw [h2, List.length_append]; omega
      have h2 := all_le t (partsOf x) fun p hp => (flat_le (p.toNat + 1) p.toNat (by omega) (by have := (hfp p hp).1; rw [Int.toNat_of_nonneg this.1]; exact this)).2
      omega
  · rw [if_neg h]; omega
/-- the flat field of a part's cell -/
theorem part_flat {t : List Ty} {k n c : Int} (h : partE t k n = 0) (hc : flatE t (partT t k n) c = 0) : flatE t k (offT t k n + c) = 0 ∧ flatC t k (offT t k n + c) = stepTy t k n + flatC t (partT t k n) c := by
  obtain ⟨hap, hoff, hin, _, _⟩ := part_in h
  obtain ⟨ha, hn0, hn1⟩ := partE_zero h
  obtain ⟨_, hc0, hc1⟩ := flatE_zero hc
  have hE : flatE t k (offT t k n + c) = 0 := flatE_in ha (by omega)
  refine ⟨hE, ?_⟩
  rw [flatC_in hE, flatC_in hc]
  obtain ⟨m, rfl⟩ : ∃ m : Nat, n = m := ⟨n.toNat, by omega⟩
  obtain ⟨d, rfl⟩ : ∃ d : Nat, c = d := ⟨c.toNat, by omega⟩
  rw [(list_at hap).1] at hc1
  obtain ⟨_, _, q, x, rfl, hx, hm, _⟩ := askT_some ha
  have hxt := tyAt_some hx
  rw [hxt] at hn1
  have hml : m < (partsOf x).length := by omega
  have hp : partT t q m = (partsOf x)[m] := by
    unfold partT
    rw [if_pos h, hxt, Int.toNat_natCast, List.getElem?_eq_getElem hml, Option.getD_some]
  have ho : offT t q m = (cellsAll t ((partsOf x).take m)).length := by
    unfold offT
    rw [if_pos h, hxt, Int.toNat_natCast]
  have hs : stepTy t q m = (stepX t x m : Nat) := by
    unfold stepTy
    rw [if_pos h, hxt, Int.toNat_natCast]
  rw [hp] at hc1 ⊢
  rw [ho, hs, Int.toNat_natCast, Int.toNat_natCast]
  have hat := at_part hx hm hml d (by omega)
  rw [show (((cellsAll t ((partsOf x).take m)).length : Int) + (d : Int)).toNat = (cellsAll t ((partsOf x).take m)).length + d by omega, hat]
  unfold stepX
  omega
/-- each cell's flat field is there, and of the cell's own type -/
theorem types_at {t : List Ty} {k : Int} (ha : askT t k = 0) (i : Nat) (hi : i < (listT t k).length) : flatE t k i = 0 ∧ ∃ m : Nat, flatC t k i = m ∧ m < (flatT t k).length ∧ (flatT t k)[m]? = (listT t k)[i]? := by
  have hE : flatE t k i = 0 := flatE_in ha (by omega)
  refine ⟨hE, ?_⟩
  obtain ⟨q, d, rfl, hd, _, hf, _, hl, ht, hdl, hc⟩ := field_nat hE
  obtain rfl : i = d := by omega
  rw [hl, ht]
  obtain ⟨h1, h2⟩ := at_type (q + 1) q (by omega) hf i hdl
  exact ⟨_, hc, h1, h2⟩
/-- no flat field is without a cell -/
theorem types_all {t : List Ty} {k : Int} (ha : askT t k = 0) (m : Nat) (hm : m < (flatT t k).length) : ∃ i : Nat, i < (listT t k).length ∧ flatC t k i = m := by
  have hf := ask_fit ha
  have ht : flatT t k = flatOf t k.toNat := if_pos ha
  have hl := (list_at ha).1
  obtain ⟨_, _, q, x, rfl, hx, hmm, _⟩ := askT_some ha
  rw [Int.toNat_natCast] at ht hl
  rw [ht] at hm
  obtain ⟨i, hi, he⟩ := at_all (q + 1) q (by omega) hf m hm
  refine ⟨i, by rw [hl]; exact hi, ?_⟩
  rw [flatC_in (flatE_in ha (by rw [hl]; omega)), Int.toNat_natCast, Int.toNat_natCast, he]
theorem types_le {t : List Ty} {k : Int} (ha : askT t k = 0) : (flatT t k).length ≤ (listT t k).length := by
  have hf := ask_fit ha
  have ht : flatT t k = flatOf t k.toNat := if_pos ha
  have hl := (list_at ha).1
  obtain ⟨_, _, q, x, rfl, hx, hmm, _⟩ := askT_some ha
  rw [Int.toNat_natCast] at ht hl
  rw [ht, hl]
  exact (flat_le (q + 1) q (by omega) hf).2
/-- is there an array? -/
def arrB (t : List Ty) : Bool := t.any fun x => decide (x.kind = 5)
theorem types_plain {t : List Ty} {k : Int} (ha : askT t k = 0) (hb : arrB t = false) : flatT t k = listT t k := by
  have hf := ask_fit ha
  have ht : flatT t k = flatOf t k.toNat := if_pos ha
  have hl := (list_at ha).1
  obtain ⟨_, _, q, x, rfl, hx, hmm, _⟩ := askT_some ha
  rw [Int.toNat_natCast] at ht hl
  rw [ht, hl]
  refine no_array (fun y hy => ?_) (q + 1) q (by omega) hf
  have := List.any_eq_false.1 hb y hy
  simpa using this
theorem flat_no {t : List Ty} {k : Int} (h : askT t k ≠ 0) : flatT t k = [] := if_neg h
end Go.Proofs.Ytindpgejnaofkaa.FlN
