/- Plain facts for BitsBack. -/
import Derived.Test.YtecfjjpdlohmnaaDoorBitHelp
import Derived.Test.YtecfjjpdlohmnaaDoorBitCount
import Derived.Deep.LoopGhost
import Derived.Deep.QuietTactic
import Derived.BigQuiet
import Derived.IntWalk
import Derived.WalkLawsBesides
namespace Go.Proofs.YtecfjjpdlohmnaaDoor.SetBackP
open Go.RowKit Go.Lib SetP SetO SetNum SetIn SetWith SetT SetW2 SetF SetG SetC SetSame BitCheck BitHas BitOnes BitTz BitList BitSame BitClone BitOf BitOr BitOps BitHelp BitCount

theorem of_list {s : List Wd} (h : MayW s) : ofS (numbers s) = s := by
  have hin := numbers_in h
  have e : ofS (numbers s) = withAll [] (numbers s) := if_pos (okL_iff.2 hin)
  rw [e]
  refine ext (all_may _ mayw_nil hin) h fun n h0 h1 => ?_
  rw [inS_all _ mayw_nil hin n h0]
  simp only [inS, Bool.false_or]
  rw [Bool.eq_iff_iff]
  simp only [decide_eq_true_eq]
  rw [mem_numbers h]
  exact ⟨fun e => e.2.2, fun e => ⟨h0, h1, e⟩⟩
theorem in_of {l : List Int} (h : okL l = true) {n : Int} (h0 : 0 ≤ n) : inS (ofS l) n = decide (n ∈ l) := by
  have e : ofS l = withAll [] l := if_pos h
  rw [e, inS_all l mayw_nil (okL_iff.1 h) n h0]
  simp [inS]
theorem of_mem {l : List Int} (h : okL l = true) {n : Int} (hn : n ∈ numbers (ofS l)) : n ∈ l := by
  have := (mem_numbers (of_may l) n).1 hn
  rw [in_of h this.1] at this
  simpa using this.2.2
theorem of_has {l : List Int} (h : okL l = true) {n : Int} (hn : n ∈ l) : hasB (ofS l) n = true ∧ hasE (ofS l) n = 0 := by
  have hr := okL_iff.1 h n hn
  unfold hasB hasE hasS
  rw [if_pos (of_may l), if_pos hr]
  exact ⟨by rw [in_of h hr.1]; simpa using hn, rfl⟩
theorem rise_at {l : List Int} (h : l.Pairwise (· < ·)) {i : Nat} (h0 : 0 < i) (hi : i < l.length) : l[i - 1] < l[i] :=
  List.pairwise_iff_getElem.1 h (i - 1) i (by omega) hi (by omega)
theorem mem_take_succ {l : List Int} {j : Nat} (h : j < l.length) (x : Int) : decide (x ∈ l.take (j + 1)) = (decide (x ∈ l.take j) || (l[j] == x)) := by
  rw [List.take_succ_eq_append_getElem h, Bool.eq_iff_iff]
  simp only [List.mem_append, List.mem_singleton, decide_eq_true_eq, Bool.or_eq_true, beq_iff_eq]
  exact ⟨fun h => h.imp id Eq.symm, fun h => h.imp id Eq.symm⟩

end Go.Proofs.YtecfjjpdlohmnaaDoor.SetBackP
