/- Walks over the statements' own small helpers: are, mark, none, alive. -/
import Derived.Test.YtfnibkepkomcdaaDoorLxL
import Derived.Test.YtfnibkepkomcdaaDoorLxS
import Derived.Test.YtfnibkepkomcdaaDoorLxY
import Derived.Test.YtfnibkepkomcdaaDoorNumC
namespace Go.Proofs.YtfnibkepkomcdaaDoor.LxLA
open Go.RowKit Go.Lib LxM LxP LxK LxJ LxS LxY

/-- what Lines answers, as it lies in memory -/
def LnA (s : ByteArray) (w : World) (e : Ending) (w' : World) : Prop :=
  ∃ u, e = .returned (.tuple #[u, .int .i64 (lnE (un s))]) ∧ LinesAt w' u (mkL (lnT (un s))) ∧ Below w.heap.size w w'
theorem lnT_len (s : List UInt8) : (lnT s).length ≤ 16385 ∧ ∀ x ∈ lnT s, x.length ≤ 64 := by
  rcases lnE_cases s with h | h
  · obtain ⟨h1, h2⟩ := lnE_zero h
    rw [lnT_ok h]
    refine ⟨?_, fun x hx => h2 x (List.mem_filter.1 hx).1⟩
    have h3 := List.length_filter_le full (allW s)
    have h4 := run_len s
    have h5 : (allW s).length = (runB s).1.length + 1 := by unfold allW fin; simp
    omega
  · rw [lnT_no h]; simp
theorem lna {s : ByteArray} {w w' : World} {e : Ending} (h : LnR s w e w') : LnA s w e w' := by
  obtain ⟨u, r, rfl, h1, h2, h3⟩ := h
  obtain ⟨h4, h5⟩ := lnT_len (un s)
  refine ⟨u, rfl, ?_, h3⟩
  rw [← h1]
  have hr : r.length = (lnT (un s)).length := by
    have := congrArg List.length h1
    simpa [mkL] using this
  refine OwnL.lines h2 (by omega) fun x hx => ?_
  have hm : x.1 ∈ mkL (lnT (un s)) := by rw [← h1]; exact List.mem_map_of_mem hx
  obtain ⟨y, hy, hxy⟩ := List.mem_map.1 hm
  have := h5 y hy
  rw [← hxy]
  simp; omega

set_option maxHeartbeats 1000000 in
theorem are_calls (s : ByteArray) (v : Value) (want : List (List ByteArray)) (w : World) (hv : LinesAt w v want) (ht : Tab w) :
    Calls Tryd.prog 13 #[.string s, v] w (BoolR (decide (lnE (un s) = 0 ∧ mkL (lnT (un s)) = want)) w) := by
  have HC := hid ((LxL.lines_calls s w ht).mono fun e w' h => lna h)
  have HV := hid hv
  obtain ⟨va, vc, rfl, hvl⟩ := hv.slice
  clear hv ht
  rcases lnE_cases (un s) with h0 | h0
  · rw [h0]
    unfold LnA at HC
    rw [h0] at HC
    generalize mkL (lnT (un s)) = a at *
    have hd : decide ((0 : Int) = 0 ∧ a = want) = decide (a = want) := by simp
    rw [hd]
    clear h0 hd
    generalize hg : decide (a = want) = g
    have HG := hid hg
    clear hg
    go_enter Tryd.func13, Tryd.ntmps13
    go_wp2_with fail
    refine HC.out.mono ?_
    rintro e w1 ⟨u, rfl, hu, hb⟩
    have HS := hid (same_calls u _ _ _ w1 hu (HV.out.below hb))
    rw [HG.out] at HS
    clear HC hu HG
    go_wp2_with fail
    refine HS.out.mono ?_
    rintro e w2 ⟨rfl, hb2⟩
    have hbb := hb.trans (hb2.mono hb.size)
    clear HS hb2
    go_wp2
    go_ret
    exact ⟨rfl, hbb⟩
  · rw [h0]
    unfold LnA at HC
    rw [h0] at HC
    have hd : decide ((4 : Int) = 0 ∧ mkL (lnT (un s)) = want) = false := by simp
    rw [hd]
    clear h0 hd
    go_enter Tryd.func13, Tryd.ntmps13
    go_wp2_with fail
    refine HC.out.mono ?_
    rintro e w1 ⟨u, rfl, hu, hb⟩
    clear HC hu
    go_wp2
    go_ret
    exact ⟨rfl, hb⟩

theorem mark_true (s : ByteArray) (hs : s.size ≤ 9223372036854775807) (n : Int) (h : mkN s 114 = (n, 0)) (w : World) :
    Calls Tryd.prog 12 #[.string s, .int .i64 n] w (BoolR true w) := by
  have HC := hid (mark_calls s hs 114 w)
  unfold MkR at HC
  rw [h] at HC
  clear h
  have e1 : (n == n) = true := by simp
  go_enter Tryd.func12, Tryd.ntmps12
  go_wp2_with fail
  refine HC.out.mono ?_
  rintro e w1 ⟨rfl, hb⟩
  go_wp2
  go_ret
  exact ⟨rfl, hb⟩
theorem none_true (s : ByteArray) (hs : s.size ≤ 9223372036854775807) (h : mkN s 114 = (0, 10)) (w : World) :
    Calls Tryd.prog 11 #[.string s] w (BoolR true w) := by
  have HC := hid (mark_calls s hs 114 w)
  unfold MkR at HC
  rw [h] at HC
  clear h
  go_enter Tryd.func11, Tryd.ntmps11
  go_wp2_with fail
  refine HC.out.mono ?_
  rintro e w1 ⟨rfl, hb⟩
  go_wp2
  go_ret
  exact ⟨rfl, hb⟩

/-- a mark's number, reckoned -/
def mkC (l : List UInt8) : Int × Int := match l with
  | [] => (0, 10)
  | x :: t => if x = 114 then NumC.smC t 999 else (0, 10)
theorem mkN_c {s : ByteArray} {l : List UInt8} {r : Int × Int} (hs : un s = l) (h : mkC l = r) : mkN s 114 = r := by
  unfold mkN
  rw [hs]
  cases l with
  | nil => exact h
  | cons x t =>
    simp only
    unfold mkC at h
    simp only at h
    rw [NumC.sm_eq]
    exact h
theorem list_lit (w : World) (xs : List Value) (t : TypeId) (hn : xs.length ≤ 1000000) : ListAt (w.alloc (.cells xs.toArray t)) (.slice (some ⟨w.heap.size, 0, none⟩) xs.length xs.length) xs :=
  list_of_owns (ownsRow_lit w xs t xs.length rfl (by unfold maxLen; omega)) (by omega)
/-- the chapter's text, and its lines -/
def exS : ByteArray := ⟨#[97, 32, 32, 98, 32, 35, 32, 99, 10, 35, 10, 9, 100]⟩
def exL : List (List ByteArray) := [[⟨#[97]⟩, ⟨#[98]⟩], [⟨#[100]⟩]]
theorem ex_lines : lnE (un exS) = 0 ∧ mkL (lnT (un exS)) = exL := by decide +kernel
abbrev exW (w : World) : World := ((w.alloc (.cells #[.string ⟨#[97]⟩, .string ⟨#[98]⟩] 9)).alloc (.cells #[.string ⟨#[100]⟩] 9)).alloc (.cells #[.slice (some ⟨w.heap.size, 0, none⟩) 2 2, .slice (some ⟨w.heap.size + 1, 0, none⟩) 1 1] 29)
theorem ex_at (w : World) : LinesAt (exW w) (.slice (some ⟨w.heap.size + 1 + 1, 0, none⟩) 2 2) exL ∧ Below w.heap.size w (exW w) := by
  have h1 := list_lit w [.string ⟨#[97]⟩, .string ⟨#[98]⟩] 9 (by decide)
  have b1 := alloc_below w (.cells #[.string ⟨#[97]⟩, .string ⟨#[98]⟩] 9)
  generalize hw1 : w.alloc (.cells #[.string ⟨#[97]⟩, .string ⟨#[98]⟩] 9) = w1 at *
  have s1 : w1.heap.size = w.heap.size + 1 := by rw [← hw1]; simp
  have h2 := list_lit w1 [.string ⟨#[100]⟩] 9 (by decide)
  have b2 := alloc_below w1 (.cells #[.string ⟨#[100]⟩] 9)
  generalize hw2 : w1.alloc (.cells #[.string ⟨#[100]⟩] 9) = w2 at *
  have s2 : w2.heap.size = w.heap.size + 1 + 1 := by rw [← hw2]; simp [s1]
  have h3 := list_lit w2 [.slice (some ⟨w.heap.size, 0, none⟩) 2 2, .slice (some ⟨w.heap.size + 1, 0, none⟩) 1 1] 29 (by simp)
  have b3 := alloc_below w2 (.cells #[.slice (some ⟨w.heap.size, 0, none⟩) 2 2, .slice (some ⟨w.heap.size + 1, 0, none⟩) 1 1] 29)
  rw [s1] at h2
  rw [s2] at h3
  unfold exW
  rw [hw1, hw2]
  refine ⟨⟨[([⟨#[97]⟩, ⟨#[98]⟩], .slice (some ⟨w.heap.size, 0, none⟩) 2 2), ([⟨#[100]⟩], .slice (some ⟨w.heap.size + 1, 0, none⟩) 1 1)], rfl, h3, ?_⟩, b1.trans ((b2.trans (b3.mono b2.size)).mono b1.size)⟩
  intro x hx
  simp only [List.mem_cons, List.not_mem_nil, or_false] at hx
  rcases hx with rfl | rfl
  · exact (ListAt.below h1 b2).below b3
  · exact ListAt.below h2 b3

set_option maxHeartbeats 1000000 in
theorem alive_calls (w : World) (ht : Tab w) : Calls Tryd.prog 10 #[] w (BoolR true w) := by
  obtain ⟨hl, hb0⟩ := ex_at w
  have H1 := hid (are_calls exS _ exL (exW w) hl (ht.on hb0))
  rw [decide_eq_true ex_lines] at H1
  have H2 := hid (mark_true ⟨#[114, 49, 50]⟩ (by decide) 12 (mkN_c rfl (by decide +kernel)))
  have H3 := hid (none_true ⟨#[114, 48, 49, 50]⟩ (by decide) (mkN_c rfl (by decide +kernel)))
  have HB := hid hb0
  unfold exS at H1
  clear hl hb0 ht
  go_enter Tryd.func10, Tryd.ntmps10
  go_wp2_with fail
  refine H1.out.mono ?_
  rintro e w1 ⟨rfl, b1⟩
  have hb1 := HB.out.trans (b1.mono HB.out.size)
  go_wp2_with fail
  refine (H2.out w1).mono ?_
  rintro e w2 ⟨rfl, b2⟩
  have hb2 := hb1.trans (b2.mono hb1.size)
  go_wp2_with fail
  refine (H3.out w2).mono ?_
  rintro e w3 ⟨rfl, b3⟩
  have hb3 := hb2.trans (b3.mono hb2.size)
  clear b1 b2 b3 hb1 hb2
  go_wp2
  go_ret
  exact ⟨rfl, hb3⟩
end Go.Proofs.YtfnibkepkomcdaaDoor.LxLA
