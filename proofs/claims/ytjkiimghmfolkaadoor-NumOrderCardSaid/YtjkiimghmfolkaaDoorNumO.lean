/- Plain facts on the order of decimal texts. -/
import Derived.Test.YtjkiimghmfolkaaDoorNumP
import GoSem.Op.String
namespace Go.Proofs.YtjkiimghmfolkaaDoor.NumO
open Go.Lib NumP

theorem less_snoc : ∀ (x y : List UInt8) (a b : UInt8), x.length = y.length → Op.bytesLess (x ++ [a]) (y ++ [b]) = (Op.bytesLess x y || (x == y && decide (a < b)))
  | [], [], a, b, _ => by simp [Op.bytesLess]
  | [], _ :: _, _, _, h => by simp at h
  | _ :: _, [], _, _, h => by simp at h
  | p :: x, q :: y, a, b, h => by
    have ih := less_snoc x y a b (by simpa using h)
    simp only [List.cons_append, Op.bytesLess, ih]
    by_cases h1 : p < q
    · simp [h1]
    · by_cases h2 : p = q
      · subst h2; simp
      · have h3 : (p == q) = false := by simpa using h2
        simp [h1, h3]

def dc (k : Nat) : UInt8 := UInt8.ofNat (48 + k)
theorem dc_small {u : Nat} (h : u < 10) : decDigits u = [dc u] := dec_small h
theorem dc_big {u : Nat} (h : ¬ u < 10) : decDigits u = decDigits (u / 10) ++ [dc (u % 10)] := dec_big h
theorem lt_dc {a b : Nat} (ha : a < 10) (hb : b < 10) : decide (dc a < dc b) = decide (a < b) := by
  have : dc a < dc b ↔ a < b := by
    unfold dc
    rw [UInt8.lt_iff_toNat_lt, ofNat_toNat (by omega), ofNat_toNat (by omega)]; omega
  simp only [this]
theorem eq_dec {u v : Nat} (h : decDigits u = decDigits v) : u = v := by
  have := congrArg val h
  rwa [val_dec, val_dec] at this

/-- the order of texts is the order of numbers -/
theorem dec_order (u v : Nat) : (decide ((decDigits u).length < (decDigits v).length) || (decide ((decDigits u).length = (decDigits v).length) && Op.bytesLess (decDigits u) (decDigits v))) = decide (u < v) := by
  induction u using Nat.strongRecOn generalizing v with
  | _ u ih =>
    by_cases hu : u < 10
    · by_cases hv : v < 10
      · rw [dc_small hu, dc_small hv]
        have := lt_dc hu hv
        simpa [Op.bytesLess] using this
      · have h1 := dec_length_pos (v / 10)
        rw [dc_small hu, dc_big hv]
        have h2 : [dc u].length < (decDigits (v / 10) ++ [dc (v % 10)]).length := by simp; omega
        have h3 : u < v := by omega
        simp only [h2, h3, decide_true, Bool.true_or]
    · by_cases hv : v < 10
      · have h1 := dec_length_pos (u / 10)
        rw [dc_small hv, dc_big hu]
        have h2 : ¬ (decDigits (u / 10) ++ [dc (u % 10)]).length < [dc v].length := by simp
        have h4 : ¬ (decDigits (u / 10) ++ [dc (u % 10)]).length = [dc v].length := by simp; intro e; rw [e] at h1; simp at h1
        have h3 : ¬ u < v := by omega
        simp only [h2, h3, h4, decide_false, Bool.false_and, Bool.or_false]
      · have ih' := ih (u / 10) (by omega) (v / 10)
        rw [dc_big hu, dc_big hv]
        simp only [List.length_append, List.length_cons, List.length_nil]
        by_cases hl : (decDigits (u / 10)).length = (decDigits (v / 10)).length
        · rw [less_snoc _ _ _ _ hl, lt_dc (by omega) (by omega)]
          simp only [hl, Nat.lt_irrefl, decide_false, decide_true, Bool.false_or, Bool.true_and] at ih' ⊢
          rw [ih']
          by_cases he : u / 10 = v / 10
          · rw [he]
            have h5 : (decDigits (v / 10) == decDigits (v / 10)) = true := by simp
            rw [h5]
            simp only [Nat.lt_irrefl, decide_false, Bool.false_or, Bool.true_and, decide_eq_decide]
            omega
          · have hne : (decDigits (u / 10) == decDigits (v / 10)) = false := by
              simp; exact fun h => he (eq_dec h)
            rw [hne]
            simp only [Bool.false_and, Bool.or_false, decide_eq_decide]
            omega
        · have h1 : ¬ (decDigits (u / 10)).length + 1 = (decDigits (v / 10)).length + 1 := by omega
          have h2 : ¬ u / 10 = v / 10 := fun he => hl (by rw [he])
          simp only [hl, h1, decide_false, Bool.false_and, Bool.or_false, decide_eq_decide, Nat.zero_add] at ih' ⊢
          omega
end Go.Proofs.YtjkiimghmfolkaaDoor.NumO
