/- Walks over num.Write and the statements' own small helpers (is, none, alive). -/
import Derived.Test.YtjkiimghmfolkaaDoorNumF
import Derived.Test.YtjkiimghmfolkaaDoorShelf
import Derived.Lib.AppendIntMem
namespace Go.Proofs.YtjkiimghmfolkaaDoor.NumL
open Go.RowKit Go.Lib NumP NumQ NumR NumD NumF

theorem below_grow (w : World) (os : Array Obj) : Below w.heap.size w (Sort.grow w os) :=
  ⟨rfl, rfl, rfl, by simp [Sort.grow], fun k hk => by simp [Sort.grow, Array.getElem?_append, hk]⟩

/-- the table that the library's numerals lean on, in this world and in each one behind it -/
def Tab (w : World) : Prop := TabBelow Tryd.prog w.heap.size w "internal/strconv.uint64pow10" .u64 pow10Tab
theorem Tab.on {w w1 : World} (h : Tab w) (hb : Below w.heap.size w w1) : Tab w1 := by
  intro w' h'
  exact h w' (hb.trans (h'.mono hb.size))

theorem write_calls (n : Int) (h : I64 n) (w : World) (ht : Tab w) :
    Calls Tryd.prog 12 #[.int .i64 n] w fun e w' => e = .returned (.string ⟨(itoa n).toArray⟩) ∧ Below w.heap.size w w' := by
  have HT := hid ht.here
  go_enter Tryd.func12, Tryd.ntmps12
  go_wp2_with fail
  refine (Tryd.strconv_FormatInt_10 n h.1 h.2 w HT.out).mono ?_
  rintro e w1 ⟨rfl, k, os, rfl⟩
  go_wp2
  go_ret
  exact ⟨rfl, (below_drewN (Below.refl _ _) k).trans ((below_grow _ os).mono (Nat.le_refl _))⟩

/-- 'rd', reckoned -/
def rdC (l : List UInt8) : Int × Int :=
  if begB (l.drop (atOf l)) (decide (atOf l = 1)) && (l.drop (atOf l)).all isDig && decide (val (l.drop (atOf l)) ≤ most (decide (atOf l = 1))) then (num l, 0) else (0, 10)
theorem rd_eq (l : List UInt8) : rd l = rdC l := by
  unfold rdC
  split
  · rename_i h
    simp only [Bool.and_eq_true, decide_eq_true_eq, List.all_eq_true] at h
    exact rd_well ⟨h.1.1, h.1.2, h.2⟩
  · rename_i h
    simp only [Bool.and_eq_true, decide_eq_true_eq, List.all_eq_true] at h
    exact rd_ill fun hw => h ⟨⟨hw.1, hw.2.1⟩, hw.2.2⟩
theorem itoa_of {l : List UInt8} {n : Int} (h : rdC l = (n, 0)) : itoa n = l := by
  rw [← rd_eq] at h
  rcases rd_cases l with ⟨m, _, hm, e⟩ | ⟨_, e⟩
  · rw [e] at h
    have : m = n := congrArg Prod.fst h
    rw [← this]; exact hm
  · rw [e] at h
    have := congrArg Prod.snd h
    simp at this

/-- is and none answer true where they should -/
theorem is_calls (s : ByteArray) (hs : s.size ≤ 9223372036854775807) (n : Int) (h : rd s.data.toList = (n, 0)) (w : World) :
    Calls Tryd.prog 10 #[.string s, .int .i64 n] w fun e w' => e = .returned (.bool true) ∧ Below w.heap.size w w' := by
  have HC := hid (NumF.read_calls s hs w)
  unfold RdPost at HC
  rw [h] at HC
  simp only at HC
  clear h
  have e1 : (n == n) = true := by simp
  go_enter Tryd.func10, Tryd.ntmps10
  go_wp2_with fail
  refine HC.out.mono ?_
  rintro e w1 ⟨rfl, hb⟩
  go_wp2
  go_ret
  exact ⟨rfl, hb⟩

theorem none_calls (s : ByteArray) (hs : s.size ≤ 9223372036854775807) (h : rd s.data.toList = (0, 10)) (w : World) :
    Calls Tryd.prog 11 #[.string s] w fun e w' => e = .returned (.bool true) ∧ Below w.heap.size w w' := by
  have HC := hid (NumF.read_calls s hs w)
  unfold RdPost at HC
  rw [h] at HC
  simp only at HC
  clear h
  go_enter Tryd.func11, Tryd.ntmps11
  go_wp2_with fail
  refine HC.out.mono ?_
  rintro e w1 ⟨rfl, hb⟩
  go_wp2
  go_ret
  exact ⟨rfl, hb⟩

theorem rd_c {l : List UInt8} {r : Int × Int} (h : rdC l = r) : rd l = r := (rd_eq l).trans h

theorem alive_calls (w : World) (ht : Tab w) :
    Calls Tryd.prog 9 #[] w fun e w' => e = .returned (.bool true) ∧ Below w.heap.size w w' := by
  have H1 := hid (is_calls ⟨#[48]⟩ (by decide) 0 (rd_c (by decide)))
  have H2 := hid (is_calls ⟨#[45, 55]⟩ (by decide) (-7) (rd_c (by decide)))
  have H3 := hid (none_calls ⟨#[48, 49]⟩ (by decide) (rd_c (by decide)))
  have H4 := hid (write_calls 120 (by decide))
  rw [itoa_of (l := [49, 50, 48]) (n := 120) (by decide)] at H4
  have HT := hid ht
  clear ht
  go_enter Tryd.func9, Tryd.ntmps9
  go_wp2_with fail
  refine (H1.out w).mono ?_
  rintro e w1 ⟨rfl, b1⟩
  go_wp2_with fail
  refine (H2.out w1).mono ?_
  rintro e w2 ⟨rfl, b2⟩
  go_wp2_with fail
  refine (H3.out w2).mono ?_
  rintro e w3 ⟨rfl, b3⟩
  have b13 := b1.trans ((b2.trans (b3.mono b2.size)).mono b1.size)
  go_wp2_with fail
  refine (H4.out w3 (HT.out.on b13)).mono ?_
  rintro e w4 ⟨rfl, b4⟩
  have b14 := b13.trans (b4.mono b13.size)
  clear b1 b2 b3 b4 b13
  go_wp2
  go_ret
  exact ⟨rfl, b14⟩
end Go.Proofs.YtjkiimghmfolkaaDoor.NumL
