/- Plain facts on cells and parts: what the laws say. -/
import Derived.Test.YtindpgejnaofkaaTyRC
namespace Go.Proofs.Ytindpgejnaofkaa.TyN
open Go.RowKit Go.Lib TyM TyS TyH TyRC

theorem cells_plain {t : List Ty} (N : Nat) : ∀ (k : Nat), k < N → Fit t k → ∀ c ∈ cellsOf t k, plainB t c = true := by
  induction N with
  | zero => intro k hk; omega
  | succ N ih =>
    intro k hk hf c hc
    obtain ⟨n, x, hkn, hnt, hx, hm, hl⟩ := fit_at hf
    obtain rfl : k = n := by omega
    cases hs : scalarK x.kind with
    | true =>
      rw [cellsOf_scalar hx hs] at hc
      rw [List.mem_singleton.1 hc, plainB_at hx, hs]
    | false =>
      rcases mayX_kind hm with h | h
      · rw [hs] at h; cases h
      · rw [cellsOf_parts hx h (mayX_low hm)] at hc
        unfold cellsAll at hc
        obtain ⟨p, hp, hcp⟩ := List.mem_flatMap.1 hc
        obtain ⟨hpf, hpk⟩ := fit_part hnt hm hl p hp
        obtain ⟨q, rfl⟩ : ∃ q : Nat, p = q := ⟨p.toNat, by have := hpf.1; omega⟩
        rw [Int.toNat_natCast] at hcp
        exact ih q (by omega) hpf c hcp
theorem cells_some {t : List Ty} (N : Nat) : ∀ (k : Nat), k < N → Fit t k → 1 ≤ (cellsOf t k).length := by
  induction N with
  | zero => intro k hk; omega
  | succ N ih =>
    intro k hk hf
    obtain ⟨n, x, hkn, hnt, hx, hm, hl⟩ := fit_at hf
    obtain rfl : k = n := by omega
    cases hs : scalarK x.kind with
    | true => rw [cellsOf_scalar hx hs]; simp
    | false =>
      have hne : ∃ p, p ∈ partsOf x := by
        rcases mayX_kind hm with h | h | h
        · rw [hs] at h; cases h
        · rw [partsOf_struct h]
          have := (mayX_struct hm h).1
          exact ⟨x.parts[0], List.getElem_mem (by omega)⟩
        · rw [partsOf_array h]
          have := mayX_array hm h
          exact ⟨x.elem, List.mem_replicate.2 ⟨by omega, rfl⟩⟩
      have h45 : x.kind = 4 ∨ x.kind = 5 := by
        rcases mayX_kind hm with h | h
        · rw [hs] at h; cases h
        · exact h
      rw [cellsOf_parts hx h45 (mayX_low hm)]
      obtain ⟨p, hp⟩ := hne
      obtain ⟨hpf, hpk⟩ := fit_part hnt hm hl p hp
      obtain ⟨q, rfl⟩ : ∃ q : Nat, p = q := ⟨p.toNat, by have := hpf.1; omega⟩
      have h1 := ih q (by omega) hpf
      obtain ⟨c, hc⟩ := List.exists_mem_of_length_pos (by omega : 0 < (cellsOf t q).length)
      exact List.length_pos_of_mem (show c ∈ cellsAll t (partsOf x) from List.mem_flatMap.2 ⟨(q : Int), hp, by rw [Int.toNat_natCast]; exact hc⟩)

theorem list_no {t : List Ty} {k : Int} (h : askT t k ≠ 0) : listT t k = [] ∧ isT t k = false := ⟨if_neg h, if_neg h⟩
theorem list_at {t : List Ty} {k : Int} (h : askT t k = 0) : listT t k = cellsOf t k.toNat ∧ isT t k = scalarK (tyAt t k).kind := ⟨if_pos h, if_pos h⟩
theorem list_len (t : List Ty) (k : Int) : (listT t k).length ≤ 32 := by
  by_cases h : askT t k = 0
  · rw [(list_at h).1]
    obtain ⟨_, _, n, x, rfl, _, _, hc⟩ := askT_some h
    rwa [Int.toNat_natCast]
  · rw [(list_no h).1]; simp
/-- each cell is a scalar -/
theorem list_plain {t : List Ty} {k : Int} (h : askT t k = 0) : ∀ c ∈ listT t k, askT t c = 0 ∧ isT t c = true := by
  intro c hc
  rw [(list_at h).1] at hc
  have hf := ask_fit h
  obtain ⟨h1, h2, n, x, rfl, hx, hm, _⟩ := askT_some h
  rw [Int.toNat_natCast] at hc
  have hp := cells_plain (n + 1) n (by omega) hf c hc
  obtain ⟨a, y, hy, hs⟩ := plainB_iff.1 hp
  have hlow := plainB_low hp
  have hask : askT t c = 0 := by
    unfold askT
    rw [if_pos (askT_zero h).1, if_pos hlow]
  refine ⟨hask, ?_⟩
  rw [(list_at hask).2]
  obtain ⟨q, rfl⟩ : ∃ q : Nat, c = q := ⟨c.toNat, by omega⟩
  rw [Int.toNat_natCast] at hy
  rw [tyAt_some hy, hs]
theorem list_some {t : List Ty} {k : Int} (h : askT t k = 0) : 1 ≤ (listT t k).length := by
  rw [(list_at h).1]
  have hf := ask_fit h
  obtain ⟨_, _, n, x, rfl, _, _, _⟩ := askT_some h
  rw [Int.toNat_natCast]
  exact cells_some (n + 1) n (by omega) hf
/-- a scalar is its own one cell -/
theorem list_own {t : List Ty} {k : Int} (h : askT t k = 0) : isT t k = true ↔ listT t k = [k] := by
  constructor
  · intro hs
    rw [(list_at h).2] at hs
    obtain ⟨_, _, n, x, rfl, hx, _, _⟩ := askT_some h
    rw [tyAt_some hx] at hs
    rw [(list_at h).1, Int.toNat_natCast, cellsOf_scalar hx hs]
  · intro he
    exact (list_plain h k (by rw [he]; simp)).2

/-- a part's cells among a type's -/
theorem part_in {t : List Ty} {k n : Int} (h : partE t k n = 0) : askT t (partT t k n) = 0 ∧ 0 ≤ offT t k n ∧
    offT t k n + (listT t (partT t k n)).length ≤ (listT t k).length ∧ ((listT t k).drop (offT t k n).toNat).take (listT t (partT t k n)).length = listT t (partT t k n) ∧
    (if partE t k (n + 1) = 0 then offT t k (n + 1) = offT t k n + (listT t (partT t k n)).length else offT t k n + (listT t (partT t k n)).length = (listT t k).length) := by
  obtain ⟨ha, hn0, hn1⟩ := partE_zero h
  obtain ⟨m, rfl⟩ : ∃ m : Nat, n = m := ⟨n.toNat, by omega⟩
  have hfit := parts_fit ha
  obtain ⟨h1, h2, q, x, rfl, hx, hm, _⟩ := askT_some ha
  have hxt := tyAt_some hx
  rw [hxt] at hfit hn1
  have hml : m < (partsOf x).length := by omega
  have hp : partT t q m = (partsOf x)[m] := by
    unfold partT
    rw [if_pos h, hxt, Int.toNat_natCast, List.getElem?_eq_getElem hml, Option.getD_some]
  have ho : offT t q m = (cellsAll t ((partsOf x).take m)).length := by
    unfold offT
    rw [if_pos h, hxt, Int.toNat_natCast]
  obtain ⟨hpf, hpl⟩ := hfit _ (List.getElem_mem hml)
  rw [hp, ho]
  generalize hpe : (partsOf x)[m] = p at *
  have hask : askT t p = 0 := by
    unfold askT
    rw [if_pos (askT_zero ha).1, if_pos ⟨hpf.1, hpl⟩]
  have hns : scalarK x.kind = false := by
    cases hs : scalarK x.kind with
    | false => rfl
    | true => rw [partsOf_scalar hs] at hml; simp at hml
  have h45 : x.kind = 4 ∨ x.kind = 5 := by
    rcases mayX_kind hm with h | h
    · rw [hns] at h; cases h
    · exact h
  have hall : listT t q = cellsAll t (partsOf x) := by rw [(list_at ha).1, Int.toNat_natCast, cellsOf_parts hx h45 (mayX_low hm)]
  have hown : listT t p = cellsOf t p.toNat := (list_at hask).1
  have hsplit : cellsAll t (partsOf x) = cellsAll t ((partsOf x).take m) ++ (cellsOf t p.toNat ++ cellsAll t ((partsOf x).drop (m + 1))) := by
    conv => lhs; rw [← List.take_append_drop m (partsOf x), cellsAll_append, List.drop_eq_getElem_cons hml, cellsAll_cons, hpe]
  have hnext : cellsAll t ((partsOf x).take (m + 1)) = cellsAll t ((partsOf x).take m) ++ cellsOf t p.toNat := by
    rw [cellsAll_take t hml, hpe]
  rw [hall, hown]
  refine ⟨hask, by omega, ?_, ?_, ?_⟩
  · rw [hsplit, List.length_append, List.length_append]; omega
  · rw [hsplit, Int.toNat_natCast, List.drop_left, List.take_left]
  · by_cases hlast : m + 1 < (partsOf x).length
    · have he : partE t q (m + 1) = 0 := partE_in ha (by rw [hxt]; omega)
      rw [if_pos he]
      unfold offT
      rw [if_pos he, hxt, show ((m : Int) + 1).toNat = m + 1 by omega, hnext, List.length_append]
      simp
    · have he : partE t q (m + 1) = 2 := partE_out ha (by rw [hxt]; omega)
      rw [if_neg (by omega), hsplit, List.drop_eq_nil_of_le (by omega), cellsAll_nil, List.append_nil, List.length_append]
      simp
end Go.Proofs.Ytindpgejnaofkaa.TyN
