/- Walks over the closures of bits.together. -/
import Derived.Test.YtecfjjpdlohmnaaDoorBitOps
import Derived.Test.YtecfjjpdlohmnaaDoorSetV
import Derived.RangeFuncBox
import Derived.Maps.AppendAt
import Derived.Deep.QuietTactic
import Derived.BigQuiet
namespace Go.Proofs.YtecfjjpdlohmnaaDoor.BitPut
open Go.RowKit Go.Lib SetP SetO SetNum SetIn SetWith SetT SetW2 BitOps

/-- a word's place -/
theorem place_calls (x1 x2 : Int) (w : World) :
    Calls Tryd.prog 37 #[.agg #[.int .i64 x1, .int .u64 x2]] w fun e w' => e = .returned (.int .i64 x1) ∧ w.alloc (.cells #[.int .i64 x1, .int .u64 x2] 34) = w' := by
  go_enter Tryd.func37, Tryd.ntmps37
  go_wp2
  go_ret
  exact ⟨rfl, rfl⟩

/-- what lies in memory while the words are put together -/
def Mid (g : FuncId) (Bs Bb B : Nat) (t : List Wd) (w : World) : Prop :=
  ∃ v m, Boxed w Bs 23 v ∧ Boxed w Bb 57 (.func (.func g) #[] #[]) ∧ w.ownsRow B 34 2 v m (wdVals t)

/-- a place's words, put -/
def PutPost (g : FuncId) (Bs Bb B : Nat) (t : List Wd) (w : World) (e : Ending) (w' : World) : Prop :=
  e = .returned (.tuple #[]) ∧ Mid g Bs Bb B t w' ∧ Below B w w'

set_option maxHeartbeats 1000000 in
theorem put_calls (g : FuncId) (he : Enters Tryd.prog g) (F : Int → Int → Int)
    (hop : ∀ x y w, U x → U y → Calls Tryd.prog g #[.int .u64 x, .int .u64 y] w fun e w' => e = .returned (.int .u64 (F x y)) ∧ w = w')
    (p x1 x2 y1 y2 : Int) (hx : U x2) (hy : U y2) (Bs Bb B : Nat) (hBs : B ≤ Bs) (t : List Wd) (ht : t.length ≤ 32768) (w : World) (hw : B ≤ w.heap.size) (hmid : Mid g Bs Bb B t w) :
    Calls Tryd.prog 39 #[.int .i64 p, .agg #[.int .i64 x1, .int .u64 x2], .agg #[.int .i64 y1, .int .u64 y2], .pointer (some ⟨Bb, 0, none⟩), .pointer (some ⟨Bs, 0, none⟩)] w
      (PutPost g Bs Bb B (t ++ emit p (F x2 y2)) w) := by
  obtain ⟨i0, hi, hz0, hz1, hz2⟩ := info_parts info_wd
  obtain ⟨v, m, hv, hf, hown⟩ := hmid
  have he' : ∀ args w, (callFunc g args).run Tryd.prog w = .ok (.enter g args) w := he
  have HOP := hid (hop x2 y2 · hx hy)
  have hcf := ((hf.alloc (.cells #[.int .i64 x1, .int .u64 x2] 34)).alloc (.cells #[.int .i64 y1, .int .u64 y2] 34)).cell
  clear hop hx hy
  go_enter Tryd.func39, Tryd.ntmps39
  go_wp2_with fail
  refine (HOP.out _).mono ?_
  rintro e u1 ⟨rfl, rfl⟩
  generalize F x2 y2 = z at *
  have hmid2 : Mid g Bs Bb B t ((w.alloc (.cells #[.int .i64 x1, .int .u64 x2] 34)).alloc (.cells #[.int .i64 y1, .int .u64 y2] 34)) :=
    ⟨v, m, (hv.alloc _).alloc _, (hf.alloc _).alloc _, (hown.alloc _).alloc _⟩
  have hbe : Below B w ((w.alloc (.cells #[.int .i64 x1, .int .u64 x2] 34)).alloc (.cells #[.int .i64 y1, .int .u64 y2] 34)) :=
    ((Below.refl _ _).alloc hw _).alloc (by simp; omega) _
  clear hcf hv hf hown he' he
  have hsz : B ≤ ((w.alloc (.cells #[.int .i64 x1, .int .u64 x2] 34)).alloc (.cells #[.int .i64 y1, .int .u64 y2] 34)).heap.size := by simp; omega
  generalize (w.alloc (.cells #[.int .i64 x1, .int .u64 x2] 34)).alloc (.cells #[.int .i64 y1, .int .u64 y2] 34) = w2 at *
  have HM := hid hmid2
  obtain ⟨v, m, hv, hf, hown⟩ := hmid2
  have hcv := hv.cell
  have hfv := hv.frozen
  by_cases hz : z = 0
  · have hd : (z != 0) = false := by simp [hz]
    have HZ := hid hz
    clear hz hv hf hown hcv hfv
    go_wp2
    go_end0
    refine ⟨rfl, ?_, hbe⟩
    rw [HZ.out, emit_zero, List.append_nil]
    exact HM.out
  · have hd : (z != 0) = true := by simpa using hz
    have HZ := hid hz
    clear hz
    have HN : Hid (m ≤ 32768) := by
      have := hown.1; rw [wdVals_length] at this
      show m ≤ _
      omega
    go_wp2_with (first
      | (at_builtin; refine wpList_append_own _ rfl _ _ 23 rfl B 34 i0 (.agg #[.int .i64 0, .int .u64 0]) 2 16 Tryd.underlying23 hi hz0 hz1 hz2 rfl (by decide) v m (wdVals t) rfl (hown.alloc _) ⟨w2.heap.size, 0, none⟩ 1 1 [.int .i64 p, .int .u64 z] rfl rfl ?c1 ?c2 ?c3 ?c4 ?c5 ?_)
      | go_in)
    case c1 => exact cell_two_new _ _ _ _
    case c2 => intro u hu; simp at hu; rcases hu with rfl | rfl <;> rfl
    case c3 => have := HN.out; unfold maxLen; omega
    case c4 => have := HN.out; omega
    case c5 => simp; omega
    · intro v' w1 hown' hgrow _
      obtain ⟨g', cap', rfl⟩ := ownsRow_succ hown'
      have hfb := (hf.alloc (.cells #[.int .i64 p, .int .u64 z] 34)).kept hgrow (hf.not_row (by decide) hown)
      obtain ⟨hv1, hv2, hr2, hk2, hb2⟩ := hv.appended (by decide) hown hsz hBs hown' hgrow
      have hc1 := hv1.cell
      have hf1 := hv1.frozen
      have HFB := hid hfb
      clear hfb hf hown hgrow hv hcv hfv
      have HV1 := hid hv1
      clear hv1
      go_wp2
      go_end0
      refine ⟨rfl, ⟨_, m + 1, hv2, ?_, ?_⟩, hbe.trans hb2⟩
      · refine HFB.out.kept (grownBy_setCell' _ _ _) (fun e => ?_)
        cases e
        have := (show w1.heap[Bs]? = _ from HFB.out).symm.trans HV1.out
        simp at this
      · rw [emit_some _ HZ.out, wdVals_append]
        exact hr2
end Go.Proofs.YtecfjjpdlohmnaaDoor.BitPut
