/- Walks over fescueref02.bit and In. -/
import Derived.Test.YtecfjjpdlohmnaaDoorSetP
import Derived.Deep.LoopGhost
import Derived.Deep.QuietTactic
import Derived.BigQuiet
namespace Go.Proofs.YtecfjjpdlohmnaaDoor.SetIn
open Go.RowKit Go.Lib SetP

theorem pow_lt {k : Nat} (h : k ≤ 63) : 2 ^ k ≤ 9223372036854775808 := by
  have := Nat.pow_le_pow_right (n := 2) (by decide) h
  have e : (2 : Nat) ^ 63 = 9223372036854775808 := by decide
  omega

theorem bit_calls (n : Int) (h0 : 0 ≤ n) (h1 : n ≤ 9223372036854775807) (w : World) :
    Calls Tryd.prog 42 #[.int .i64 n] w fun e w' => e = .returned (.int .u64 ((2 ^ (n % 64).toNat : Nat) : Int)) ∧ w = w' := by
  obtain ⟨m, hm⟩ : ∃ m : Nat, m = (n % 64).toNat := ⟨_, rfl⟩
  have hm2 : n % 64 = (m : Int) := by omega
  have hm3 : m ≤ 63 := by omega
  have HM := hid hm
  clear hm
  go_enter Tryd.func42, Tryd.ntmps42
  go_wp2
  go_loop [3, 4] (fun b i => ∃ k : Nat, k ≤ m ∧ i = .int .i64 k ∧ b = .int .u64 ((2 ^ k : Nat) : Int)) (fun _ i => m - (intOf i).toNat)
  case atStart => exact ⟨0, by omega, rfl, rfl⟩
  case round =>
    obtain ⟨k, hk, rfl, rfl⟩ := hrel
    have hp := pow_lt (k := k) (by omega)
    have hs : 2 ^ (k + 1) = 2 * 2 ^ k := by rw [Nat.pow_succ]; omega
    have HS := hid hs
    clear hs
    by_cases hlt : k < m
    · have hp2 := pow_lt (k := k + 1) (by omega)
      rw [HS.out] at hp2
      generalize 2 ^ k = p at *
      go_wp2
      go_round
      case rel => exact ⟨k + 1, by omega, by go_num, by rw [HS.out]; go_num⟩
      case measure => simp [intOf]; omega
    · obtain rfl : k = m := by omega
      go_wp2
      go_ret
      exact ⟨rfl, rfl⟩

/-- is n in the set? -/
def inS : List Wd → Int → Bool
  | [], _ => false
  | x :: t, n => if x.1 = n / 64 then decide (x.2 / ((2 ^ (n % 64).toNat : Nat) : Int) % 2 = 1) else inS t n
theorem inS_skip {s : List Wd} {n : Int} : ∀ {k : Nat}, (∀ j (h : j < s.length), j < k → s[j].1 ≠ n / 64) → inS s n = inS (s.drop k) n := by
  intro k
  induction k generalizing s with
  | zero => intro _; rfl
  | succ k ih =>
    intro h
    cases s with
    | nil => rfl
    | cons x t =>
      rw [List.drop_succ_cons, ← ih (s := t) (fun j hj hk => h (j + 1) (by simpa using hj) (by omega))]
      have := h 0 (by simp) (by omega)
      simp only [List.getElem_cons_zero] at this
      rw [inS, if_neg this]
theorem inS_hit {s : List Wd} {n : Int} {k : Nat} (hk : k < s.length) (h : ∀ j (h : j < s.length), j < k → s[j].1 ≠ n / 64) (hh : s[k].1 = n / 64) :
    inS s n = decide (s[k].2 / ((2 ^ (n % 64).toNat : Nat) : Int) % 2 = 1) := by
  rw [inS_skip h, List.drop_eq_getElem_cons hk, inS, if_pos hh]
theorem inS_none {s : List Wd} {n : Int} (h : ∀ j (h : j < s.length), s[j].1 ≠ n / 64) : inS s n = false := by
  rw [inS_skip (k := s.length) (fun j hj _ => h j hj), List.drop_length, inS]

set_option maxHeartbeats 400000 in
theorem in_calls (v : Value) (s : List Wd) (n : Int) (h0 : 0 ≤ n) (h1 : n ≤ 9223372036854775807) (w : World) (hs : SetAt w v s) (hok : ∀ x ∈ s, WdOk x) :
    Calls Tryd.prog 34 #[v, .int .i64 n] w fun e w' => e = .returned (.bool (inS s n)) ∧ ∃ m, w' = w.drewN m := by
  obtain ⟨ao, cap, rfl, hl, hm, _⟩ := hs
  go_enter Tryd.func34, Tryd.ntmps34
  go_wp2
  go_loopg [5] s.length (fun g i wr => ∃ k : Nat, k + g = s.length ∧ i = .int .i64 k ∧ (∀ j (h : j < s.length), j < k → s[j].1 ≠ n / 64) ∧ ∃ m, wr = w.drewN m)
  case atStart => exact ⟨0, by omega, rfl, by omega, 0, rfl⟩
  case round =>
    obtain ⟨k, hk, rfl, hg, m, hwr⟩ := hrel
    have HWR := hid hwr
    clear hwr
    have HG := hid hg
    clear hg
    by_cases hlt : k < s.length
    · obtain ⟨b, off, rfl, hbs, hc⟩ := hm (by omega)
      have c0 : wr.cell? ⟨b, off + k * 2, none⟩ = some (.int .i64 s[k].1) := by rw [HWR.out]; exact (hc k hlt).1
      have c1 : wr.cell? ⟨b, off + k * 2 + 1, none⟩ = some (.int .u64 s[k].2) := by rw [HWR.out]; exact (hc k hlt).2
      obtain ⟨_, _, y0, y1⟩ := hok _ (List.getElem_mem hlt)
      have HH := hid (fun hh => inS_hit (s := s) (n := n) hlt HG.out hh)
      have HX : Hid (s[k].1 ≠ n / 64 → ∀ j (h : j < s.length), j < k + 1 → s[j].1 ≠ n / 64) := by
        intro hne j hj hlt2
        rcases Nat.lt_succ_iff_lt_or_eq.1 hlt2 with h | rfl
        · exact HG.out j hj h
        · exact hne
      clear hc hm hok
      generalize s[k].1 = x at *
      generalize s[k].2 = y at *
      by_cases hx : x = n / 64
      · have hx1 : (x == n / 64) = true := by simpa using hx
        have HI := hid (HH.out hx)
        have hp := pow_lt (k := (n % 64).toNat) (by omega)
        have hp0 : 1 ≤ 2 ^ (n % 64).toNat := Nat.one_le_two_pow
        have HBit := hid (bit_calls n h0 h1)
        generalize 2 ^ (n % 64).toNat = p at *
        have HI2 : Hid (inS s n = ((y / (p : Int)).tmod 2 == 1)) := by
          show inS s n = _
          rw [HI.out, Int.tmod_eq_emod_of_nonneg (Int.ediv_nonneg y0 (by omega))]
          exact Bool.eq_iff_iff.2 (by simp)
        clear hx HH HX HG HI
        go_wp2
        go_quiet ((go_at_call 42; exact quiet_eq (HBit.out _)))
        go_wp2
        go_ret
        exact ⟨by rw [HI2.out]; rfl, _, by rw [HWR.out]; exact World.drewN_drewN _ _ _⟩
      · have hx1 : (x == n / 64) = false := by simpa using hx
        have HI := hid (HX.out hx)
        clear hx HH HX
        go_wp2
        go_roundg (gk - 1)
        case measure => omega
        case rel => exact ⟨k + 1, by omega, by go_num, HI.out, _, HWR.out⟩
    · have hn := inS_none (s := s) (n := n) (fun j hj => HG.out j hj (by omega))
      have HN := hid hn
      clear hn
      go_wp2
      go_ret
      exact ⟨by rw [HN.out]; rfl, _, HWR.out⟩
end Go.Proofs.YtecfjjpdlohmnaaDoor.SetIn
