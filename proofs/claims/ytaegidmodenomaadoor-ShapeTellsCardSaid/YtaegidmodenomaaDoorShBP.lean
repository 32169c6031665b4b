/- Plain facts for ShapeBack: where a register lies, and the next one. -/
import Derived.Test.YtaegidmodenomaaDoorShX
namespace Go.Proofs.YtaegidmodenomaaDoor.ShBP
open Go.RowKit Go.Lib SetP IntO TyM TyP TyB TyC ShM ShP ShA ShB ShC ShE ShQ ShF ShG ShH ShI ShJ ShK ShL ShX

theorem locate_spec : ∀ (l : List Bx) (n : Nat), n < manyB l → ∃ (j i : Nat) (h : j < l.length), locate l n = (j, i) ∧ manyB (l.take j) + i = n ∧ i < l[j].ins.length
  | [], n, h => by simp [manyB_nil] at h
  | b :: l, n, h => by
    by_cases hb : n < b.ins.length
    · exact ⟨0, n, by simp, by unfold locate; rw [if_pos hb], by simp [manyB_nil], by simpa using hb⟩
    · rw [manyB_cons] at h
      obtain ⟨j, i, hj, h1, h2, h3⟩ := locate_spec l (n - b.ins.length) (by omega)
      refine ⟨j + 1, i, by simpa using hj, by unfold locate; rw [if_neg hb, h1], ?_, by simpa using h3⟩
      rw [List.take_succ_cons, manyB_cons]; omega
theorem many_mono (l : List Bx) {a b : Nat} (h : a ≤ b) : manyB (l.take a) ≤ manyB (l.take b) := by
  have := manyB_le (l.take b) a
  rwa [List.take_take, Nat.min_eq_left h] at this
/-- from a register to the next one -/
theorem locate_next {l : List Bx} {n j i : Nat} (hj : j < l.length) (h2 : manyB (l.take j) + i = n) (h3 : i < l[j].ins.length) (hn : n + 1 < manyB l) : (locate l (n + 1) = (j, i + 1)) ∨ ∃ c, j < c ∧ locate l (n + 1) = (c, 0) := by
  by_cases hi : i + 1 < l[j].ins.length
  · exact .inl (locate_of l (n + 1) j (i + 1) hj (by omega) hi)
  · obtain ⟨c, d, hc, e1, e2, e3⟩ := locate_spec l (n + 1) hn
    have hjt := manyB_take hj
    have hct := manyB_take hc
    right
    by_cases hcj : c ≤ j
    · by_cases hce : c = j
      · subst hce; omega
      · have := many_mono l (show c + 1 ≤ j by omega)
        omega
    · have := many_mono l (show j + 1 ≤ c by omega)
      obtain rfl : d = 0 := by omega
      exact ⟨c, by omega, e1⟩

/-- what the four calls answer, of a register -/
theorem back_par {p : Px} {f r : Int} {k : Nat} {x : Fx} (hz : findP p f = 0) (h1 : Has1 p f k x) (h0 : 0 ≤ r) (hr : r < (parOf p.types x.sig : Nat)) : placeE p f r = 0 ∧ placeB p f r = -1 ∧ placeI p f r = r := by
  have he : placeE p f r = 0 := by
    unfold placeE
    rw [if_neg (fun e => e hz), cnt_at h1, if_pos ⟨h0, by omega⟩]
  refine ⟨he, ?_, ?_⟩
  · unfold placeB
    rw [he, if_neg (fun e => e rfl), fn_eq h1, if_pos hr]
  · unfold placeI
    rw [he, if_neg (fun e => e rfl), fn_eq h1, if_pos hr]
theorem back_out {p : Px} {f r : Int} {k : Nat} {x : Fx} (hz : findP p f = 0) (h1 : Has1 p f k x) (h0 : ¬ (0 ≤ r ∧ r < ((parOf p.types x.sig + manyB x.blocks : Nat) : Int))) : placeE p f r = 2 ∧ placeB p f r = 0 ∧ placeI p f r = 0 := by
  have he : placeE p f r = 2 := by
    unfold placeE
    rw [if_neg (fun e => e hz), cnt_at h1, if_neg h0]
  refine ⟨he, ?_, ?_⟩
  · unfold placeB
    rw [he]; rfl
  · unfold placeI
    rw [he]; rfl
theorem back_in {p : Px} {f : Int} {k n : Nat} {x : Fx} {j i : Nat} (hz : findP p f = 0) (h1 : Has1 p f k x) (hn : n < manyB x.blocks) (hl : locate x.blocks n = (j, i)) : placeE p f ((parOf p.types x.sig + n : Nat) : Int) = 0 ∧ placeB p f ((parOf p.types x.sig + n : Nat) : Int) = j ∧ placeI p f ((parOf p.types x.sig + n : Nat) : Int) = i := by
  have he : placeE p f ((parOf p.types x.sig + n : Nat) : Int) = 0 := by
    unfold placeE
    rw [if_neg (fun e => e hz), cnt_at h1, if_pos ⟨by omega, by omega⟩]
  have ht : (((parOf p.types x.sig + n : Nat) : Int) - (parOf p.types x.sig : Nat)).toNat = n := by omega
  refine ⟨he, ?_, ?_⟩
  · unfold placeB
    rw [he, if_neg (fun e => e rfl), fn_eq h1, if_neg (by omega), ht, hl]
  · unfold placeI
    rw [he, if_neg (fun e => e rfl), fn_eq h1, if_neg (by omega), ht, hl]
theorem back_reg {p : Px} {f : Int} {k n : Nat} {x : Fx} {j i : Nat} (hz : findP p f = 0) (h1 : Has1 p f k x) (hj : j < x.blocks.length) (h2 : manyB (x.blocks.take j) + i = n) (h3 : i < x.blocks[j].ins.length) : regE p f j i = 0 ∧ regN p f j i = ((parOf p.types x.sig + n : Nat) : Int) := by
  have he : regE p f j i = 0 := by
    unfold regE
    rw [if_neg (fun e => e hz), fn_eq h1, if_pos]
    rw [insN_at hj]
    exact ⟨⟨by omega, by omega⟩, by omega, by omega⟩
  refine ⟨he, ?_⟩
  unfold regN
  rw [he, if_neg (fun e => e rfl), fn_eq h1, Int.toNat_natCast]
  omega

end Go.Proofs.YtaegidmodenomaaDoor.ShBP
