/- Plain facts: union, meet and without, and what is in them. -/
import Derived.Test.YtecfjjpdlohmnaaDoorSetFP
import Derived.Test.YtecfjjpdlohmnaaDoorSetGP
namespace Go.Proofs.YtecfjjpdlohmnaaDoor.SetG
open Go.RowKit Go.Lib SetP SetO SetNum SetIn SetWith SetT SetW2 SetF

def unionS (a b : List Wd) : List Wd := withAll a (numbers b)
def meetS (a b : List Wd) : List Wd := withAll [] ((numbers a).filter (inS b))
def minusS (a b : List Wd) : List Wd := withAll [] ((numbers a).filter fun n => !inS b n)
theorem union_may {a b : List Wd} (ha : MayW a) (hb : MayW b) : MayW (unionS a b) := all_may _ ha (numbers_in hb)
theorem meet_may {a b : List Wd} (ha : MayW a) : MayW (meetS a b) := all_may _ mayw_nil (fun n hn => numbers_in ha n (List.mem_filter.1 hn).1)
theorem minus_may {a b : List Wd} (ha : MayW a) : MayW (minusS a b) := all_may _ mayw_nil (fun n hn => numbers_in ha n (List.mem_filter.1 hn).1)
theorem inS_union {a b : List Wd} (ha : MayW a) (hb : MayW b) {m : Int} (h0 : 0 ≤ m) (h1 : m < 1048576) : inS (unionS a b) m = (inS a m || inS b m) := by
  unfold unionS
  rw [inS_all _ ha (numbers_in hb) m h0]
  congr 1
  rw [Bool.eq_iff_iff, decide_eq_true_iff, mem_numbers hb]
  exact ⟨fun h => h.2.2, fun h => ⟨h0, h1, h⟩⟩
theorem inS_meet {a b : List Wd} (ha : MayW a) {m : Int} (h0 : 0 ≤ m) (h1 : m < 1048576) : inS (meetS a b) m = (inS a m && inS b m) := by
  unfold meetS
  rw [inS_all _ mayw_nil (fun n hn => numbers_in ha n (List.mem_filter.1 hn).1) m h0]
  rw [Bool.eq_iff_iff]
  simp only [inS, Bool.false_or, decide_eq_true_eq, List.mem_filter, mem_numbers ha, Bool.and_eq_true]
  exact ⟨fun h => ⟨h.1.2.2, h.2⟩, fun h => ⟨⟨h0, h1, h.1⟩, h.2⟩⟩
theorem inS_minus {a b : List Wd} (ha : MayW a) {m : Int} (h0 : 0 ≤ m) (h1 : m < 1048576) : inS (minusS a b) m = (inS a m && !inS b m) := by
  unfold minusS
  rw [inS_all _ mayw_nil (fun n hn => numbers_in ha n (List.mem_filter.1 hn).1) m h0]
  rw [Bool.eq_iff_iff]
  simp only [inS, Bool.false_or, decide_eq_true_eq, List.mem_filter, mem_numbers ha, Bool.and_eq_true]
  exact ⟨fun h => ⟨h.1.2.2, h.2⟩, fun h => ⟨⟨h0, h1, h.1⟩, h.2⟩⟩
end Go.Proofs.YtecfjjpdlohmnaaDoor.SetG
