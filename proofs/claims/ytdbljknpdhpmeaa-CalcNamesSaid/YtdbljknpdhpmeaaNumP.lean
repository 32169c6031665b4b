/- Plain facts on decimal texts: what a text's number is, and that texts and numbers go there and back. No program in this text. -/
import Derived.Lib.ItoaNum
namespace Go.Proofs.Ytdbljknpdhpmeaa.NumP
open Go.Lib

/-- a decimal digit -/
def isDig (c : UInt8) : Bool := decide (48 ≤ c.toNat ∧ c.toNat ≤ 57)
theorem isDig_iff (c : UInt8) : isDig c = true ↔ 48 ≤ c.toNat ∧ c.toNat ≤ 57 := by simp [isDig]
theorem isDig_false (c : UInt8) : isDig c = false ↔ c.toNat < 48 ∨ 57 < c.toNat := by
  simp [isDig]; omega
/-- what digits come to -/
def val (l : List UInt8) : Nat := l.foldl (fun a c => 10 * a + (c.toNat - 48)) 0
theorem val_nil : val [] = 0 := rfl
theorem val_snoc (l : List UInt8) (c : UInt8) : val (l ++ [c]) = 10 * val l + (c.toNat - 48) := by
  simp [val, List.foldl_append]

theorem ofNat_toNat {k : Nat} (h : k < 256) : (UInt8.ofNat k).toNat = k := by
  simp [UInt8.toNat_ofNat']; omega
theorem ofNat_of {c : UInt8} : UInt8.ofNat c.toNat = c := by simp

theorem dec_small {u : Nat} (h : u < 10) : decDigits u = [UInt8.ofNat (48 + u)] := by rw [decDigits, dif_pos h]
theorem dec_big {u : Nat} (h : ¬ u < 10) : decDigits u = decDigits (u / 10) ++ [UInt8.ofNat (48 + u % 10)] := by rw [decDigits, dif_neg h]

theorem val_dec (u : Nat) : val (decDigits u) = u := by
  induction u using Nat.strongRecOn with
  | _ u ih =>
    by_cases h : u < 10
    · rw [dec_small h]
      show 10 * 0 + ((UInt8.ofNat (48 + u)).toNat - 48) = u
      rw [ofNat_toNat (by omega)]; omega
    · rw [dec_big h, val_snoc, ih (u / 10) (by omega), ofNat_toNat (by omega)]; omega

theorem dec_digs (u : Nat) : ∀ c ∈ decDigits u, isDig c = true := by
  induction u using Nat.strongRecOn with
  | _ u ih =>
    by_cases h : u < 10
    · rw [dec_small h]
      intro c hc
      simp only [List.mem_singleton] at hc
      subst hc
      rw [isDig_iff, ofNat_toNat (by omega)]; omega
    · rw [dec_big h]
      intro c hc
      rcases List.mem_append.1 hc with hc | hc
      · exact ih (u / 10) (by omega) c hc
      · simp only [List.mem_singleton] at hc
        subst hc
        rw [isDig_iff, ofNat_toNat (by omega)]; omega

theorem dec_ne (u : Nat) : decDigits u ≠ [] := by
  by_cases h : u < 10
  · rw [dec_small h]; simp
  · rw [dec_big h]; simp

/-- the first digit is 0 of 0 alone -/
theorem dec_head (u : Nat) (h0 : 1 ≤ u) : ∃ c t, decDigits u = c :: t ∧ c.toNat ≠ 48 := by
  induction u using Nat.strongRecOn with
  | _ u ih =>
    by_cases h : u < 10
    · rw [dec_small h]
      exact ⟨_, _, rfl, by rw [ofNat_toNat (by omega)]; omega⟩
    · obtain ⟨c, t, e, hc⟩ := ih (u / 10) (by omega) (by omega)
      rw [dec_big h, e]
      exact ⟨c, _, rfl, hc⟩
theorem dec_zero : decDigits 0 = [48] := by rw [dec_small (by omega)]; rfl

/-- digits, the first not 0 unless it is alone, are the digits of what they come to -/
theorem dec_val : ∀ (n : Nat) (l : List UInt8), l.length = n → l ≠ [] → (∀ c ∈ l, isDig c = true) → (∀ c t, l = c :: t → c.toNat = 48 → t = []) → decDigits (val l) = l := by
  intro n
  induction n with
  | zero => intro l h1 h2; exact absurd (List.length_eq_zero_iff.1 h1) h2
  | succ n ih =>
    intro l h1 h2 h3 h4
    have hs : l.dropLast ++ [l.getLast h2] = l := List.dropLast_concat_getLast h2
    generalize hp : l.dropLast = p at hs
    generalize hq : l.getLast h2 = q at hs
    subst hs
    have hlen : p.length = n := by simpa using h1
    have hqd : isDig q = true := h3 q (by simp)
    rw [isDig_iff] at hqd
    rw [val_snoc]
    by_cases hpe : p = []
    · subst hpe
      have : 10 * val [] + (q.toNat - 48) = q.toNat - 48 := by rw [val_nil]; omega
      rw [this, dec_small (by omega), show 48 + (q.toNat - 48) = q.toNat by omega, ofNat_of]
      rfl
    · have hpd : decDigits (val p) = p := ih p hlen hpe (fun c hc => h3 c (by simp [hc])) (by
        intro c t e hc
        have := h4 c (t ++ [q]) (by rw [e]; rfl) hc
        simp at this)
      have hv : 1 ≤ val p := by
        rcases Nat.eq_zero_or_pos (val p) with h0 | h0
        · rw [h0, dec_zero] at hpd
          have := h4 48 [q] (by rw [← hpd]; rfl) (by decide)
          simp at this
        · exact h0
      rw [dec_big (by omega), show (10 * val p + (q.toNat - 48)) / 10 = val p by omega, show 48 + (10 * val p + (q.toNat - 48)) % 10 = q.toNat by omega, ofNat_of, hpd]

theorem val_le (l : List UInt8) (h : ∀ c ∈ l, isDig c = true) : val l < 10 ^ l.length := by
  suffices H : ∀ (n : Nat) (l : List UInt8), l.length = n → (∀ c ∈ l, isDig c = true) → val l < 10 ^ n from H l.length l rfl h
  intro n
  induction n with
  | zero => intro l h1 _; rw [List.length_eq_zero_iff.1 h1]; simp [val_nil]
  | succ n ih =>
    intro l h1 h3
    have h2 : l ≠ [] := by intro e; subst e; simp at h1
    have hs : l.dropLast ++ [l.getLast h2] = l := List.dropLast_concat_getLast h2
    generalize hp : l.dropLast = p at hs
    generalize hq : l.getLast h2 = q at hs
    subst hs
    have hlen : p.length = n := by simpa using h1
    have hqd : isDig q = true := h3 q (by simp)
    rw [isDig_iff] at hqd
    have := ih p hlen (fun c hc => h3 c (by simp [hc]))
    rw [val_snoc, Nat.pow_succ]; omega

theorem dec_length_le (u k : Nat) (hk : 1 ≤ k) (h : u < 10 ^ k) : (decDigits u).length ≤ k := by
  induction k generalizing u with
  | zero => omega
  | succ k ih =>
    by_cases h10 : u < 10
    · rw [dec_small h10]; simp
    · rw [dec_big h10, List.length_append]
      by_cases hk0 : k = 0
      · subst hk0; simp at h; omega
      · have := ih (u / 10) (by omega) (by rw [Nat.pow_succ] at h; omega)
        simp; omega
theorem dec_length_pos (u : Nat) : 1 ≤ (decDigits u).length := by
  have := dec_ne u
  cases h : decDigits u with
  | nil => exact absurd h this
  | cons c t => simp

/-- an int64 -/
def I64 (n : Int) : Prop := -9223372036854775808 ≤ n ∧ n ≤ 9223372036854775807
instance (n : Int) : Decidable (I64 n) := by unfold I64; infer_instance

/-- the number that a text is, if it is one's: what its digits come to, and below 0 with a sign ahead -/
def cand (s : List UInt8) : Int := match s with
  | [] => 0
  | c :: t => if c.toNat = 45 then -(val t : Int) else (val (c :: t) : Int)

/-- what Read answers: the number, and 0; or 0, and the error 10 -/
def rd (s : List UInt8) : Int × Int := if I64 (cand s) ∧ itoa (cand s) = s then (cand s, 0) else (0, 10)

theorem itoa_nn {n : Int} (h : 0 ≤ n) : itoa n = decDigits n.toNat := by unfold itoa; rw [if_neg (by omega)]
theorem itoa_ng {n : Int} (h : n < 0) : itoa n = 45 :: decDigits n.natAbs := by unfold itoa; rw [if_pos h]

theorem cand_itoa (n : Int) : cand (itoa n) = n := by
  by_cases h : n < 0
  · rw [itoa_ng h]
    simp only [cand]
    rw [if_pos (by decide), val_dec]; omega
  · rw [itoa_nn (by omega)]
    cases hd : decDigits n.toNat with
    | nil => exact absurd hd (dec_ne _)
    | cons c t =>
      have hc := dec_digs n.toNat c (by rw [hd]; simp)
      rw [isDig_iff] at hc
      simp only [cand]
      rw [if_neg (by omega), ← hd, val_dec]; omega

theorem rd_itoa {n : Int} (h : I64 n) : rd (itoa n) = (n, 0) := by
  unfold rd; rw [cand_itoa, if_pos ⟨h, rfl⟩]
theorem rd_of {s : List UInt8} {n : Int} (h : I64 n) (e : itoa n = s) : rd s = (n, 0) := by subst e; exact rd_itoa h
theorem rd_none {s : List UInt8} (h : ∀ n, I64 n → itoa n ≠ s) : rd s = (0, 10) := by
  unfold rd; rw [if_neg (fun ⟨h1, h2⟩ => h _ h1 h2)]
theorem rd_cases (s : List UInt8) : (∃ n, I64 n ∧ itoa n = s ∧ rd s = (n, 0)) ∨ ((∀ n, I64 n → itoa n ≠ s) ∧ rd s = (0, 10)) := by
  by_cases h : I64 (cand s) ∧ itoa (cand s) = s
  · exact .inl ⟨_, h.1, h.2, by unfold rd; rw [if_pos h]⟩
  · refine .inr ⟨fun n hn e => h ?_, by unfold rd; rw [if_neg h]⟩
    rw [← e, cand_itoa]; exact ⟨hn, rfl⟩
theorem rd_i64 (s : List UInt8) : I64 (rd s).1 := by
  rcases rd_cases s with ⟨n, h, _, e⟩ | ⟨_, e⟩ <;> rw [e]
  · exact h
  · exact ⟨by decide, by decide⟩
theorem rd_err (s : List UInt8) : (rd s).2 = 0 ∨ (rd s).2 = 10 := by
  rcases rd_cases s with ⟨n, h, _, e⟩ | ⟨_, e⟩ <;> rw [e] <;> simp

/-- the digits' part of an int64's text is at most 19 -/
theorem digs_le (n : Int) (h : I64 n) : (decDigits n.natAbs).length ≤ 19 := by
  refine dec_length_le _ 19 (by decide) ?_
  have := h.1; have := h.2
  have : (10 : Nat) ^ 19 = 10000000000000000000 := by decide
  omega
theorem natAbs_toNat {n : Int} (h : 0 ≤ n) : n.natAbs = n.toNat := by omega
theorem itoa_length (n : Int) (h : I64 n) : 1 ≤ (itoa n).length ∧ (itoa n).length ≤ 20 := by
  have h1 := digs_le n h
  by_cases hn : n < 0
  · rw [itoa_ng hn]; simp; omega
  · rw [itoa_nn (by omega), ← natAbs_toNat (by omega)]
    have := dec_length_pos n.natAbs
    omega
theorem itoa_inj {a b : Int} (h : itoa a = itoa b) : a = b := by
  have := congrArg cand h
  rwa [cand_itoa, cand_itoa] at this
end Go.Proofs.Ytdbljknpdhpmeaa.NumP
