/- Plain facts on flat fields. -/
import Derived.Test.YtindpgejnaofkaaTyN
namespace Go.Proofs.Ytindpgejnaofkaa.FlM
open Go.RowKit Go.Lib TyM TyS TyH TyRC TyN

/-- what a type is made of: a struct of its parts, an array of its element -/
def elemsOf (x : Ty) : List Int := if x.kind = 4 then x.parts else if x.kind = 5 then [x.elem] else []
theorem elemsOf_struct {x : Ty} (h : x.kind = 4) : elemsOf x = x.parts := by unfold elemsOf; rw [if_pos h]
theorem elemsOf_array {x : Ty} (h : x.kind = 5) : elemsOf x = [x.elem] := by unfold elemsOf; rw [if_neg (by omega), if_pos h]
theorem elems_low {t : List Ty} {k : Nat} {x : Ty} (h : mayX t k x = true) : ∀ p ∈ elemsOf x, 0 ≤ p ∧ p < k := by
  intro p hp
  unfold elemsOf at hp
  split at hp
  · rename_i h4; exact (mayX_struct h h4).2.2 p hp
  · split at hp
    · rename_i h5
      rw [List.mem_singleton.1 hp]
      exact (mayX_array h h5).2.2
    · cases hp
theorem elems_parts {x : Ty} (t : List Ty) (k : Nat) (h : mayX t k x = true) : ∀ p ∈ elemsOf x, p ∈ partsOf x := by
  intro p hp
  unfold elemsOf at hp
  split at hp
  · rename_i h4; rw [partsOf_struct h4]; exact hp
  · split at hp
    · rename_i h5
      rw [List.mem_singleton.1 hp, partsOf_array h5]
      have := (mayX_array h h5).1
      exact List.mem_replicate.2 ⟨by omega, rfl⟩
    · cases hp

/-- the flat fields of a type -/
def flatOf (t : List Ty) (k : Nat) : List Int :=
  match t[k]? with
  | none => [(k : Int)]
  | some x => if x.kind = 4 ∨ x.kind = 5 then (elemsOf x).flatMap fun p => if _h : p.toNat < k then flatOf t p.toNat else [] else [(k : Int)]
  termination_by k
/-- of some types, one behind the other -/
def flatAll (t : List Ty) (l : List Int) : List Int := l.flatMap fun p => flatOf t p.toNat
theorem flatAll_nil (t : List Ty) : flatAll t [] = [] := rfl
theorem flatAll_cons (t : List Ty) (p : Int) (l : List Int) : flatAll t (p :: l) = flatOf t p.toNat ++ flatAll t l := by simp [flatAll]
theorem flatAll_append (t : List Ty) (a b : List Int) : flatAll t (a ++ b) = flatAll t a ++ flatAll t b := by simp [flatAll]
theorem flatAll_one (t : List Ty) (p : Int) : flatAll t [p] = flatOf t p.toNat := by rw [flatAll_cons, flatAll_nil, List.append_nil]
theorem flatAll_take (t : List Ty) {l : List Int} {k : Nat} (h : k < l.length) : flatAll t (l.take (k + 1)) = flatAll t (l.take k) ++ flatOf t l[k].toNat := by
  rw [List.take_succ_eq_append_getElem h, flatAll_append, flatAll_one]
theorem flatOf_scalar {t : List Ty} {k : Nat} {x : Ty} (h : t[k]? = some x) (hs : scalarK x.kind = true) : flatOf t k = [(k : Int)] := by
  unfold scalarK at hs
  have := of_decide_eq_true hs
  rw [flatOf, h]
  exact if_neg (by omega)
theorem flatOf_parts {t : List Ty} {k : Nat} {x : Ty} (h : t[k]? = some x) (hk : x.kind = 4 ∨ x.kind = 5) (hp : ∀ p ∈ elemsOf x, 0 ≤ p ∧ p < k) : flatOf t k = flatAll t (elemsOf x) := by
  rw [flatOf, h]
  show ite _ _ _ = _
  rw [if_pos hk]
  unfold flatAll
  rw [List.flatMap_def, List.flatMap_def]
  congr 1
  refine List.map_congr_left fun p hm => ?_
  have := hp p hm
  rw [dif_pos (by omega)]
theorem flatOf_struct {t : List Ty} {k : Nat} {x : Ty} (h : t[k]? = some x) (hm : mayX t k x = true) (h4 : x.kind = 4) : flatOf t k = flatAll t x.parts := by
  rw [flatOf_parts h (.inl h4) (elems_low hm), elemsOf_struct h4]
theorem flatOf_array {t : List Ty} {k : Nat} {x : Ty} (h : t[k]? = some x) (hm : mayX t k x = true) (h5 : x.kind = 5) : flatOf t k = flatOf t x.elem.toNat := by
  rw [flatOf_parts h (.inr h5) (elems_low hm), elemsOf_array h5, flatAll_one]

theorem all_le (t : List Ty) : ∀ (l : List Int), (∀ p ∈ l, (flatOf t p.toNat).length ≤ (cellsOf t p.toNat).length) → (flatAll t l).length ≤ (cellsAll t l).length
  | [], _ => by simp [flatAll]
  | p :: l, h => by
    have := all_le t l fun q hq => h q (by simp [hq])
    have := h p (by simp)
    rw [flatAll_cons, cellsAll_cons, List.length_append, List.length_append]
    omega
theorem cells_le (t : List Ty) : ∀ (l : List Int) (p : Int), p ∈ l → (cellsOf t p.toNat).length ≤ (cellsAll t l).length
  | [], _, h => by cases h
  | q :: l, p, h => by
    rw [cellsAll_cons, List.length_append]
    rcases List.mem_cons.1 h with rfl | h
    · omega
    · have := cells_le t l p h; omega
theorem not_scalar {t : List Ty} {k : Nat} {x : Ty} (hm : mayX t k x = true) (hs : scalarK x.kind = false) : x.kind = 4 ∨ x.kind = 5 := by
  rcases mayX_kind hm with h | h
  · rw [hs] at h; cases h
  · exact h
/-- no more flat fields than cells, and some -/
theorem flat_le {t : List Ty} (N : Nat) : ∀ (k : Nat), k < N → Fit t k → 1 ≤ (flatOf t k).length ∧ (flatOf t k).length ≤ (cellsOf t k).length := by
  induction N with
  | zero => intro k hk; omega
  | succ N ih =>
    intro k hk hf
    obtain ⟨n, x, hkn, hnt, hx, hm, hl⟩ := fit_at hf
    obtain rfl : k = n := by omega
    have hpart : ∀ p ∈ partsOf x, 1 ≤ (flatOf t p.toNat).length ∧ (flatOf t p.toNat).length ≤ (cellsOf t p.toNat).length := by
      intro p hp
      obtain ⟨hpf, hpk⟩ := fit_part hnt hm hl p hp
      obtain ⟨q, rfl⟩ : ∃ q : Nat, p = q := ⟨p.toNat, by have := hpf.1; omega⟩
      rw [Int.toNat_natCast]
      exact ih q (by omega) hpf
    cases hs : scalarK x.kind with
    | true => rw [flatOf_scalar hx hs, cellsOf_scalar hx hs]; simp
    | false =>
      rcases not_scalar hm hs with h4 | h5
      · rw [flatOf_struct hx hm h4, cellsOf_parts hx (.inl h4) (mayX_low hm), partsOf_struct h4]
        rw [partsOf_struct h4] at hpart
        refine ⟨?_, all_le t _ fun p hp => (hpart p hp).2⟩
        have h1 := (mayX_struct hm h4).1
        obtain ⟨p, l, hpl⟩ : ∃ p l, x.parts = p :: l := by
          cases hxp : x.parts with
          | nil => rw [hxp] at h1; simp at h1
          | cons p l => exact ⟨p, l, rfl⟩
        have := (hpart p (by rw [hpl]; simp)).1
        rw [hpl, flatAll_cons, List.length_append]; omega
      · have hmem : x.elem ∈ partsOf x := elems_parts t k hm _ (by rw [elemsOf_array h5]; simp)
        rw [flatOf_array hx hm h5, cellsOf_parts hx (.inr h5) (mayX_low hm)]
        have h1 := hpart _ hmem
        have h2 := cells_le t _ _ hmem
        exact ⟨h1.1, by omega⟩

/-- the flat field of a cell of some types that lie one behind the other -/
def inParts (t : List Ty) (f : Int → Nat → Nat) : List Int → Nat → Nat
  | [], _ => 0
  | p :: l, c => if c < (cellsOf t p.toNat).length then f p c else (flatOf t p.toNat).length + inParts t f l (c - (cellsOf t p.toNat).length)
/-- the flat field of a cell -/
def flatAt (t : List Ty) (k cell : Nat) : Nat :=
  match t[k]? with
  | none => 0
  | some x =>
    if x.kind = 4 then inParts t (fun p c => if _h : p.toNat < k then flatAt t p.toNat c else 0) x.parts cell
    else if x.kind = 5 then (if _h : x.elem.toNat < k then flatAt t x.elem.toNat (cell % (cellsOf t x.elem.toNat).length) else 0)
    else 0
  termination_by k
def inAll (t : List Ty) (l : List Int) (c : Nat) : Nat := inParts t (fun p c => flatAt t p.toNat c) l c
theorem inParts_congr (t : List Ty) {f g : Int → Nat → Nat} : ∀ (l : List Int) (c : Nat), (∀ p ∈ l, ∀ c, f p c = g p c) → inParts t f l c = inParts t g l c
  | [], _, _ => rfl
  | p :: l, c, h => by
    rw [inParts, inParts, h p (by simp), inParts_congr t l _ fun q hq => h q (by simp [hq])]
theorem flatAt_scalar {t : List Ty} {k : Nat} {x : Ty} (h : t[k]? = some x) (hs : scalarK x.kind = true) (c : Nat) : flatAt t k c = 0 := by
  unfold scalarK at hs
  have := of_decide_eq_true hs
  rw [flatAt, h]
  show ite _ _ _ = _
  rw [if_neg (by omega), if_neg (by omega)]
theorem flatAt_struct {t : List Ty} {k : Nat} {x : Ty} (h : t[k]? = some x) (hm : mayX t k x = true) (h4 : x.kind = 4) (c : Nat) : flatAt t k c = inAll t x.parts c := by
  rw [flatAt, h]
  show ite _ _ _ = _
  rw [if_pos h4]
  refine inParts_congr t _ _ fun p hp c => ?_
  have := (mayX_struct hm h4).2.2 p hp
  exact dif_pos (by omega)
theorem flatAt_array {t : List Ty} {k : Nat} {x : Ty} (h : t[k]? = some x) (hm : mayX t k x = true) (h5 : x.kind = 5) (c : Nat) : flatAt t k c = flatAt t x.elem.toNat (c % (cellsOf t x.elem.toNat).length) := by
  rw [flatAt, h]
  show ite _ _ _ = _
  have := (mayX_array hm h5).2.2
  rw [if_neg (by omega), if_pos h5, dif_pos (by omega)]

/-- the part that has a cell, and what lies ahead of it -/
theorem in_at (t : List Ty) : ∀ (l : List Int) (n c : Nat) (h : n < l.length), c < (cellsOf t l[n].toNat).length →
    inAll t l ((cellsAll t (l.take n)).length + c) = (flatAll t (l.take n)).length + flatAt t l[n].toNat c
  | [], n, c, h, _ => by simp at h
  | p :: l, 0, c, h, hc => by
    simp only [List.take_zero, List.getElem_cons_zero] at hc ⊢
    unfold inAll
    rw [cellsAll_nil, flatAll_nil, inParts, List.length_nil, Nat.zero_add, if_pos hc]
    simp
  | p :: l, n + 1, c, h, hc => by
    have ih := in_at t l n c (by simpa using h) (by simpa using hc)
    unfold inAll at ih ⊢
    rw [List.take_succ_cons, cellsAll_cons, flatAll_cons, List.length_append, List.length_append, inParts, if_neg (by omega)]
    rw [show (cellsOf t p.toNat).length + (cellsAll t (l.take n)).length + c - (cellsOf t p.toNat).length = (cellsAll t (l.take n)).length + c by omega, ih, List.getElem_cons_succ]
    omega
theorem off_mono (t : List Ty) (l : List Int) {a b : Nat} (h : a ≤ b) : (cellsAll t (l.take a)).length ≤ (cellsAll t (l.take b)).length := by
  have : l.take b = l.take a ++ (l.take b).drop a := by
    conv => lhs; rw [← List.take_append_drop a (l.take b), List.take_take, Nat.min_eq_left h]
  rw [this, cellsAll_append, List.length_append]; omega
theorem off_next (t : List Ty) (l : List Int) {n : Nat} (h : n < l.length) : (cellsAll t (l.take (n + 1))).length = (cellsAll t (l.take n)).length + (cellsOf t l[n].toNat).length := by
  rw [cellsAll_take t h, List.length_append]
/-- each cell lies in a part -/
theorem off_some (t : List Ty) (l : List Int) (c : Nat) (hc : c < (cellsAll t l).length) : ∃ (n d : Nat) (h : n < l.length), d < (cellsOf t l[n].toNat).length ∧ c = (cellsAll t (l.take n)).length + d := by
  induction l generalizing c with
  | nil => simp [cellsAll] at hc
  | cons p l ih =>
    rw [cellsAll_cons, List.length_append] at hc
    by_cases h : c < (cellsOf t p.toNat).length
    · exact ⟨0, c, by simp, by simpa using h, by simp [cellsAll]⟩
    · obtain ⟨n, d, hn, hd, he⟩ := ih (c - (cellsOf t p.toNat).length) (by omega)
      refine ⟨n + 1, d, by simpa using hn, by simpa using hd, ?_⟩
      rw [List.take_succ_cons, cellsAll_cons, List.length_append]
      omega
theorem fall_some (t : List Ty) (l : List Int) (c : Nat) (hc : c < (flatAll t l).length) : ∃ (n d : Nat) (h : n < l.length), d < (flatOf t l[n].toNat).length ∧ c = (flatAll t (l.take n)).length + d := by
  induction l generalizing c with
  | nil => simp [flatAll] at hc
  | cons p l ih =>
    rw [flatAll_cons, List.length_append] at hc
    by_cases h : c < (flatOf t p.toNat).length
    · exact ⟨0, c, by simp, by simpa using h, by simp [flatAll]⟩
    · obtain ⟨n, d, hn, hd, he⟩ := ih (c - (flatOf t p.toNat).length) (by omega)
      refine ⟨n + 1, d, by simpa using hn, by simpa using hd, ?_⟩
      rw [List.take_succ_cons, flatAll_cons, List.length_append]
      omega
theorem fall_at (t : List Ty) (l : List Int) (n d : Nat) (h : n < l.length) (hd : d < (flatOf t l[n].toNat).length) : (flatAll t l)[(flatAll t (l.take n)).length + d]? = (flatOf t l[n].toNat)[d]? := by
  have : flatAll t l = flatAll t (l.take n) ++ (flatOf t l[n].toNat ++ flatAll t (l.drop (n + 1))) := by
    conv => lhs; rw [← List.take_append_drop n l, flatAll_append, List.drop_eq_getElem_cons h, flatAll_cons]
  rw [this, List.getElem?_append_right (by omega), Nat.add_sub_cancel_left, List.getElem?_append_left hd]
theorem call_at (t : List Ty) (l : List Int) (n d : Nat) (h : n < l.length) (hd : d < (cellsOf t l[n].toNat).length) : (cellsAll t l)[(cellsAll t (l.take n)).length + d]? = (cellsOf t l[n].toNat)[d]? := by
  have : cellsAll t l = cellsAll t (l.take n) ++ (cellsOf t l[n].toNat ++ cellsAll t (l.drop (n + 1))) := by
    conv => lhs; rw [← List.take_append_drop n l, cellsAll_append, List.drop_eq_getElem_cons h, cellsAll_cons]
  rw [this, List.getElem?_append_right (by omega), Nat.add_sub_cancel_left, List.getElem?_append_left hd]
theorem rep_len (t : List Ty) (p : Int) : ∀ (m : Nat), (cellsAll t (List.replicate m p)).length = m * (cellsOf t p.toNat).length
  | 0 => by simp [cellsAll]
  | m + 1 => by rw [List.replicate_succ, cellsAll_cons, List.length_append, rep_len t p m, Nat.succ_mul]; omega
theorem rep_take (m n : Nat) (p : Int) (h : n ≤ m) : (List.replicate m p).take n = List.replicate n p := by rw [List.take_replicate, Nat.min_eq_left h]

/-- a cell of a part: its flat field among the type's -/
theorem at_part {t : List Ty} {k n : Nat} {x : Ty} (hx : t[k]? = some x) (hm : mayX t k x = true) (hn : n < (partsOf x).length) (c : Nat) (hc : c < (cellsOf t (partsOf x)[n].toNat).length) :
    flatAt t k ((cellsAll t ((partsOf x).take n)).length + c) = (if x.kind = 5 then 0 else (flatAll t ((partsOf x).take n)).length) + flatAt t (partsOf x)[n].toNat c := by
  have hns : x.kind = 4 ∨ x.kind = 5 := by
    by_cases h4 : x.kind = 4
    · exact .inl h4
    by_cases h5 : x.kind = 5
    · exact .inr h5
    rw [partsOf_other h4 h5] at hn; simp at hn
  rcases hns with h4 | h5
  · rw [flatAt_struct hx hm h4, if_neg (by omega)]
    simp only [partsOf_struct h4] at hn hc ⊢
    exact in_at t _ n c hn hc
  · rw [flatAt_array hx hm h5, if_pos h5, Nat.zero_add]
    simp only [partsOf_array h5] at hn hc ⊢
    rw [List.length_replicate] at hn
    simp only [List.getElem_replicate] at hc ⊢
    rw [rep_take _ _ _ (by omega), rep_len, Nat.mul_comm, Nat.mul_add_mod, Nat.mod_eq_of_lt hc]

/-- a cell's flat field is there, and of the cell's own type -/
theorem at_type {t : List Ty} (N : Nat) : ∀ (k : Nat), k < N → Fit t k → ∀ c, c < (cellsOf t k).length → flatAt t k c < (flatOf t k).length ∧ (flatOf t k)[flatAt t k c]? = (cellsOf t k)[c]? := by
  induction N with
  | zero => intro k hk; omega
  | succ N ih =>
    intro k hk hf c hc
    obtain ⟨n, x, hkn, hnt, hx, hm, hl⟩ := fit_at hf
    obtain rfl : k = n := by omega
    cases hs : scalarK x.kind with
    | true =>
      rw [cellsOf_scalar hx hs] at hc ⊢
      rw [flatOf_scalar hx hs, flatAt_scalar hx hs]
      obtain rfl : c = 0 := by simpa using hc
      simp
    | false =>
      have h45 := not_scalar hm hs
      have hco := cellsOf_parts hx h45 (mayX_low hm)
      rw [hco] at hc
      obtain ⟨q, d, hq, hd, rfl⟩ := off_some t _ c hc
      have hmem := List.getElem_mem hq
      obtain ⟨hpf, hpk⟩ := fit_part hnt hm hl _ hmem
      rw [at_part hx hm hq d hd, hco, call_at t _ q d hq hd]
      have hih := ih (partsOf x)[q].toNat (by have := hpf.1; omega) (by rw [Int.toNat_of_nonneg hpf.1]; exact hpf) d hd
      obtain ⟨i1, i2⟩ := hih
      rcases h45 with h4 | h5
      · rw [if_neg (by omega), flatOf_struct hx hm h4]
        simp only [partsOf_struct h4] at hq hd i1 i2 ⊢
        refine ⟨?_, by rw [fall_at t _ q _ hq i1, i2]⟩
        have : flatAll t x.parts = flatAll t (x.parts.take q) ++ (flatOf t x.parts[q].toNat ++ flatAll t (x.parts.drop (q + 1))) := by
          conv => lhs; rw [← List.take_append_drop q x.parts, flatAll_append, List.drop_eq_getElem_cons hq, flatAll_cons]
        rw [this, List.length_append, List.length_append]; omega
      · rw [if_pos h5, Nat.zero_add, flatOf_array hx hm h5]
        simp only [partsOf_array h5, List.getElem_replicate] at i1 i2 ⊢
        exact ⟨i1, i2⟩
/-- no flat field is without a cell -/
theorem at_all {t : List Ty} (N : Nat) : ∀ (k : Nat), k < N → Fit t k → ∀ m, m < (flatOf t k).length → ∃ c, c < (cellsOf t k).length ∧ flatAt t k c = m := by
  induction N with
  | zero => intro k hk; omega
  | succ N ih =>
    intro k hk hf m hmm
    obtain ⟨n, x, hkn, hnt, hx, hm, hl⟩ := fit_at hf
    obtain rfl : k = n := by omega
    cases hs : scalarK x.kind with
    | true =>
      rw [flatOf_scalar hx hs] at hmm
      rw [cellsOf_scalar hx hs]
      exact ⟨0, by simp, by rw [flatAt_scalar hx hs]; simp at hmm; omega⟩
    | false =>
      have h45 := not_scalar hm hs
      have hco := cellsOf_parts hx h45 (mayX_low hm)
      rw [hco]
      have key : ∀ (q d : Nat) (hq : q < (partsOf x).length), d < (flatOf t (partsOf x)[q].toNat).length → ∃ c, c < (cellsAll t (partsOf x)).length ∧ flatAt t k c = (if x.kind = 5 then 0 else (flatAll t ((partsOf x).take q)).length) + d := by
        intro q d hq hd
        obtain ⟨hpf, hpk⟩ := fit_part hnt hm hl _ (List.getElem_mem hq)
        obtain ⟨c, hc, he⟩ := ih (partsOf x)[q].toNat (by have := hpf.1; omega) (by rw [Int.toNat_of_nonneg hpf.1]; exact hpf) d hd
        refine ⟨(cellsAll t ((partsOf x).take q)).length + c, ?_, by rw [at_part hx hm hq c hc, he]⟩
        have h1 := off_next t _ hq
        have h2 := off_mono t (partsOf x) (show q + 1 ≤ (partsOf x).length by omega)
        rw [List.take_length] at h2
        omega
      rcases h45 with h4 | h5
      · rw [flatOf_struct hx hm h4] at hmm
        obtain ⟨q, d, hq, hd, rfl⟩ := fall_some t _ m hmm
        have := key q d (by rw [partsOf_struct h4]; exact hq) (by simp only [partsOf_struct h4]; exact hd)
        rw [if_neg (by omega)] at this
        simp only [partsOf_struct h4] at this ⊢
        exact this
      · rw [flatOf_array hx hm h5] at hmm
        have h1 := (mayX_array hm h5).1
        have := key 0 m (by rw [partsOf_array h5, List.length_replicate]; omega) (by simp only [partsOf_array h5, List.getElem_replicate]; exact hmm)
        rw [if_pos h5, Nat.zero_add] at this
        exact this
/-- without arrays flat fields are cells -/
theorem no_array {t : List Ty} (ha : ∀ x ∈ t, x.kind ≠ 5) (N : Nat) : ∀ (k : Nat), k < N → Fit t k → flatOf t k = cellsOf t k := by
  induction N with
  | zero => intro k hk; omega
  | succ N ih =>
    intro k hk hf
    obtain ⟨n, x, hkn, hnt, hx, hm, hl⟩ := fit_at hf
    obtain rfl : k = n := by omega
    cases hs : scalarK x.kind with
    | true => rw [flatOf_scalar hx hs, cellsOf_scalar hx hs]
    | false =>
      rcases not_scalar hm hs with h4 | h5
      · rw [flatOf_struct hx hm h4, cellsOf_parts hx (.inl h4) (mayX_low hm), partsOf_struct h4]
        unfold flatAll cellsAll
        rw [List.flatMap_def, List.flatMap_def]
        congr 1
        refine List.map_congr_left fun p hp => ?_
        obtain ⟨hpf, hpk⟩ := fit_part hnt hm hl p (by rw [partsOf_struct h4]; exact hp)
        exact ih p.toNat (by have := hpf.1; omega) (by rw [Int.toNat_of_nonneg hpf.1]; exact hpf)
      · exact absurd h5 (ha x (List.mem_of_getElem? hx))

/-- what is answered -/
def flatT (t : List Ty) (k : Int) : List Int := if askT t k = 0 then flatOf t k.toNat else []
def flatE (t : List Ty) (k c : Int) : Int := if askT t k = 0 then (if 0 ≤ c ∧ c < (listT t k).length then 0 else 2) else askT t k
def flatC (t : List Ty) (k c : Int) : Int := if flatE t k c = 0 then (flatAt t k.toNat c.toNat : Nat) else 0
def stepX (t : List Ty) (x : Ty) (n : Nat) : Nat := if x.kind = 5 then 0 else (flatAll t ((partsOf x).take n)).length
def stepTy (t : List Ty) (k n : Int) : Int := if partE t k n = 0 then (stepX t (tyAt t k) n.toNat : Nat) else 0
theorem flatE_zero {t : List Ty} {k c : Int} (h : flatE t k c = 0) : askT t k = 0 ∧ 0 ≤ c ∧ c < (listT t k).length := by
  unfold flatE at h
  by_cases h1 : askT t k = 0
  · rw [if_pos h1] at h
    by_cases h2 : 0 ≤ c ∧ c < (listT t k).length
    · exact ⟨h1, h2⟩
    · rw [if_neg h2] at h; omega
  · rw [if_neg h1] at h; exact absurd h h1
theorem flatE_in {t : List Ty} {k c : Int} (h : askT t k = 0) (hc : 0 ≤ c ∧ c < (listT t k).length) : flatE t k c = 0 := by unfold flatE; rw [if_pos h, if_pos hc]
theorem flatE_out {t : List Ty} {k c : Int} (h : askT t k = 0) (hc : ¬ (0 ≤ c ∧ c < (listT t k).length)) : flatE t k c = 2 := by unfold flatE; rw [if_pos h, if_neg hc]
theorem flatE_err {t : List Ty} {k c : Int} (h : askT t k ≠ 0) : flatE t k c = askT t k := by unfold flatE; rw [if_neg h]
theorem flat_len (t : List Ty) (k : Int) : (flatT t k).length ≤ 32 := by
  unfold flatT
  by_cases h : askT t k = 0
  · rw [if_pos h]
    have hf := ask_fit h
    obtain ⟨_, _, n, x, rfl, _, _, hc⟩ := askT_some h
    rw [Int.toNat_natCast]
    have := (flat_le (n + 1) n (by omega) hf).2
    omega
  · rw [if_neg h]; simp
end Go.Proofs.Ytindpgejnaofkaa.FlM
