/- Walk over fescueref02.May, whole. -/
import Derived.Test.YtecfjjpdlohmnaaDoorSetV
import Derived.Test.YtecfjjpdlohmnaaDoorSetMay
namespace Go.Proofs.YtecfjjpdlohmnaaDoor.SetC
open Go.RowKit Go.Lib SetP SetO SetNum SetIn SetWith SetT SetW2 SetMay

theorem rise_of_adj : ∀ (s : List Wd), (∀ i (h0 : 0 < i) (h : i < s.length), s[i - 1].1 < s[i].1) → s.Pairwise (fun x y => x.1 < y.1)
  | [], _ => by simp
  | [x], _ => by simp
  | x :: z :: r, h => by
    have ih := rise_of_adj (z :: r) (fun i h0 hi => by
      have := h (i + 1) (by omega) (by simpa using hi)
      obtain ⟨j, rfl⟩ : ∃ j, i = j + 1 := ⟨i - 1, by omega⟩
      simpa using this)
    have hxz : x.1 < z.1 := h 1 (by omega) (by simp)
    refine List.pairwise_cons.2 ⟨fun y hy => ?_, ih⟩
    rcases List.mem_cons.1 hy with rfl | hy
    · exact hxz
    · have := (List.pairwise_cons.1 ih).1 y hy; omega
theorem may_iff {s : List Wd} (hok : ∀ x ∈ s, WdOk x) : (∀ i, i < s.length → badAt s i = false) ↔ MayW s := by
  constructor
  · intro h
    refine ⟨fun x hx => ?_, rise_of_adj s fun i h0 hi => ?_⟩
    · obtain ⟨i, hi, rfl⟩ := List.mem_iff_getElem.1 hx
      have hb := h i hi
      obtain ⟨_, _, y0, y1⟩ := hok _ hx
      unfold badAt at hb
      rw [List.getElem?_eq_getElem hi] at hb
      simp only [Bool.or_eq_false_iff, decide_eq_false_iff_not] at hb
      omega
    · have hb := h i hi
      unfold badAt at hb
      rw [List.getElem?_eq_getElem hi, List.getElem?_eq_getElem (show i - 1 < s.length by omega)] at hb
      simp only [Bool.or_eq_false_iff, Bool.and_eq_false_iff, decide_eq_false_iff_not, Option.getD_some] at hb
      omega
  · intro hm i hi
    obtain ⟨a, b, c, d⟩ := hm.1 s[i] (List.getElem_mem hi)
    unfold badAt
    rw [List.getElem?_eq_getElem hi]
    simp only [Bool.or_eq_false_iff, Bool.and_eq_false_iff, decide_eq_false_iff_not]
    refine ⟨⟨⟨by omega, by omega⟩, by omega⟩, ?_⟩
    by_cases h0 : 0 < i
    · right
      rw [List.getElem?_eq_getElem (show i - 1 < s.length by omega)]
      have := List.pairwise_iff_getElem.1 hm.2 (i - 1) i (by omega) hi (by omega)
      simp only [Option.getD_some]; omega
    · left; exact h0

instance (s : List Wd) : Decidable (MayW s) := by unfold MayW; infer_instance
theorem may_w (v : Value) (s : List Wd) (w : World) (hs : SetAt w v s) (hok : ∀ x ∈ s, WdOk x) :
    Calls Tryd.prog 32 #[v] w fun e w' => e = .returned (.bool (decide (MayW s))) ∧ ∃ n, w' = w.drewN n := by
  refine (may_calls v s w hs).mono fun e w' ⟨he, hw⟩ => ⟨?_, hw⟩
  rw [he]
  simp only [may_iff hok]
end Go.Proofs.YtecfjjpdlohmnaaDoor.SetC
