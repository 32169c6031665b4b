/- fescueref02.With where the number is in already; With whole. -/
import Derived.Test.YtecfjjpdlohmnaaSetV
import Derived.Test.YtecfjjpdlohmnaaSetWith
namespace Go.Proofs.Ytecfjjpdlohmnaa.SetW2
open Go.RowKit Go.Lib SetP SetO SetNum SetIn SetWith SetT

set_option maxHeartbeats 1000000 in
theorem with_old (v : Value) (s : List Wd) (n : Int) (h0 : 0 ≤ n) (h1 : n < 1048576) (w : World) (hs : SetAt w v s) (hin : ∀ x ∈ s, WdIn x) (hlen : s.length ≤ 16384) (hyes : inS s n = true) :
    Calls Try.prog 16 #[v, .int .i64 n] w (OwnS s w) := by
  obtain ⟨i0, hi, hz0, hz1, hz2⟩ := info_parts info_wd
  have HIN := in_calls v s n h0 (by omega) w hs (wok hin)
  rw [hyes] at HIN
  have HINN := hid HIN
  have hpos : 0 < s.length := by
    cases s with
    | nil => cases hyes
    | cons x t => simp
  clear HIN hyes
  obtain ⟨ao, cap, rfl, hl, hm, _⟩ := hs
  obtain ⟨b, off, rfl, hbs, hc⟩ := hm hpos
  have HC := hid hc
  clear hm hc
  go_enter Try.func16, Try.ntmps16
  go_wp2_with fail
  refine HINN.out.mono ?_
  rintro e w1 ⟨rfl, m0, rfl⟩
  go_wp2_with (first
    | (at_builtin; refine wpList_append_own _ rfl (.tmp 12) (.tmp 13) 23 rfl w.heap.size 40 i0 (.agg #[.int .i64 0, .int .u64 0]) 2 16 Try.underlying23 hi hz0 hz1 hz2 rfl (by decide) (.slice (some ⟨w.heap.size, 0, none⟩) 0 0) 0 [] rfl ?a0 ⟨b, off, none⟩ s.length cap (wdVals s) rfl ?a6 ?a1 ?a2 ?a3 ?a4 ?a5 ?_)
    | go_in)
  case a0 => exact World.ownsRow_made (w.drewN m0) #[] 0 (Nat.le_refl _) (by decide) (by simp)
  case a6 => exact wdVals_length s
  case a1 =>
    have hbe : Below w.heap.size w ((w.drewN m0).alloc (Obj.cells #[] 40)) := (below_drewN (Below.refl _ _) m0).alloc (Nat.le_refl _) _
    exact set_news fun i h => ⟨(hbe.cell (p := ⟨b, _, none⟩) hbs).trans (HC.out i h).1, (hbe.cell (p := ⟨b, _, none⟩) hbs).trans (HC.out i h).2⟩
  case a2 => exact wd_one s
  case a3 => unfold maxLen; omega
  case a4 => omega
  case a5 => simp
  · intro v' w1 hown' hgrow _
    have hbe : Below w.heap.size w ((w.drewN m0).alloc (Obj.cells #[] 40)) := (below_drewN (Below.refl _ _) m0).alloc (Nat.le_refl _) _
    have hbe1 : Below w.heap.size w w1 := hbe.grown hgrow (by simp) (fun g hg => by simp [Value.ownBlock] at hg; omega)
    clear hgrow hbe
    go_wp2
    go_ret
    exact ⟨v', s.length, rfl, hown', hbe1⟩

/-- With, whole -/
theorem with_calls (v : Value) (s : List Wd) (n : Int) (h0 : 0 ≤ n) (h1 : n < 1048576) (w : World) (hs : SetAt w v s) (hm : MayW s) (hlen : s.length ≤ 16384) :
    Calls Try.prog 16 #[v, .int .i64 n] w (OwnS (withS s n) w) := by
  cases hf : inS s n
  · exact with_new v s n h0 h1 w hs hm.win hlen hf (fits_of hm hf)
  · have : withS s n = s := by unfold withS; rw [if_pos hf]
    rw [this]
    exact with_old v s n h0 h1 w hs hm.win hlen hf
end Go.Proofs.Ytecfjjpdlohmnaa.SetW2
