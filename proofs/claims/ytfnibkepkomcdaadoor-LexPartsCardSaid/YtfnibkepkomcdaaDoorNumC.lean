/- 'rd' and 'sm', reckoned. -/
import Derived.Test.YtfnibkepkomcdaaDoorNumG
namespace Go.Proofs.YtfnibkepkomcdaaDoor.NumC
open Go.RowKit Go.Lib NumP NumQ NumR NumD NumE NumF NumG

def rdC (l : List UInt8) : Int × Int :=
  if begB (l.drop (atOf l)) (decide (atOf l = 1)) && (l.drop (atOf l)).all isDig && decide (val (l.drop (atOf l)) ≤ most (decide (atOf l = 1))) then (num l, 0) else (0, 10)
theorem rd_eq (l : List UInt8) : rd l = rdC l := by
  unfold rdC
  split
  · rename_i h
    simp only [Bool.and_eq_true, decide_eq_true_eq, List.all_eq_true] at h
    exact rd_well ⟨h.1.1, h.1.2, h.2⟩
  · rename_i h
    simp only [Bool.and_eq_true, decide_eq_true_eq, List.all_eq_true] at h
    exact rd_ill fun hw => h ⟨⟨hw.1, hw.2.1⟩, hw.2.2⟩
def smC (l : List UInt8) (most : Int) : Int × Int :=
  if most < 0 ∨ 1000000 < most then (0, 2)
  else if (rdC l).2 = 0 ∧ 0 ≤ (rdC l).1 ∧ (rdC l).1 ≤ most then ((rdC l).1, 0) else (0, 10)
theorem sm_eq (l : List UInt8) (most : Int) : NumG.sm l most = smC l most := by
  unfold NumG.sm smC
  rw [rd_eq]
theorem sm_c {l : List UInt8} {most : Int} {r : Int × Int} (h : smC l most = r) : NumG.sm l most = r := (sm_eq l most).trans h
end Go.Proofs.YtfnibkepkomcdaaDoor.NumC
