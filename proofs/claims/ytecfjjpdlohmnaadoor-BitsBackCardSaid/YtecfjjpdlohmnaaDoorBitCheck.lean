/- Walk over bits.Check. -/
import Derived.Test.YtecfjjpdlohmnaaDoorSetC0
import Derived.Deep.LoopGhost
import Derived.Deep.QuietTactic
import Derived.BigQuiet
namespace Go.Proofs.YtecfjjpdlohmnaaDoor.BitCheck
open Go.RowKit Go.Lib SetP SetO SetNum SetIn SetWith SetT SetW2 SetMay SetC

/-- what Check answers -/
def chk (s : List Wd) : Int := if MayW s then 0 else 8
theorem chk_yes {s : List Wd} (h : MayW s) : chk s = 0 := if_pos h
theorem chk_no {s : List Wd} (h : ¬ MayW s) : chk s = 8 := if_neg h

/-- the place ahead of the word at i -/
def pre (s : List Wd) : Nat → Int
  | 0 => -1
  | i + 1 => (s[i]?.getD (0, 0)).1
/-- does the word at i fall? -/
def cbad (s : List Wd) (i : Nat) : Bool := decide ((s[i]?.getD (0, 0)).1 ≤ pre s i) || decide (16384 ≤ (s[i]?.getD (0, 0)).1) || decide ((s[i]?.getD (0, 0)).2 = 0)
theorem cbad_iff {s : List Wd} (hok : ∀ x ∈ s, WdOk x) : (∀ i, i < s.length → cbad s i = false) ↔ MayW s := by
  constructor
  · intro h
    have hadj : ∀ i (h0 : 0 < i) (hi : i < s.length), s[i - 1].1 < s[i].1 := by
      intro i h0 hi
      obtain ⟨j, rfl⟩ : ∃ j, i = j + 1 := ⟨i - 1, by omega⟩
      have hb := h (j + 1) hi
      unfold cbad pre at hb
      have e1 : s[j]? = some s[j] := List.getElem?_eq_getElem (show j < s.length by omega)
      have e2 : s[j + 1]? = some s[j + 1] := List.getElem?_eq_getElem hi
      simp only [e1, e2, Bool.or_eq_false_iff, decide_eq_false_iff_not, Option.getD_some] at hb
      simp only [Nat.add_sub_cancel]
      omega
    have hnn : ∀ i (hi : i < s.length), 0 ≤ s[i].1 := by
      intro i
      induction i with
      | zero =>
        intro hi
        have hb := h 0 hi
        unfold cbad pre at hb
        rw [List.getElem?_eq_getElem hi] at hb
        simp only [Bool.or_eq_false_iff, decide_eq_false_iff_not, Option.getD_some] at hb
        omega
      | succ j ih =>
        intro hi
        have h1 := hadj (j + 1) (by omega) hi
        have h2 := ih (by omega)
        simp only [Nat.add_sub_cancel] at h1
        omega
    refine ⟨fun x hx => ?_, rise_of_adj s hadj⟩
    obtain ⟨i, hi, rfl⟩ := List.mem_iff_getElem.1 hx
    have hb := h i hi
    obtain ⟨_, _, y0, y1⟩ := hok _ hx
    have hn := hnn i hi
    unfold cbad at hb
    rw [List.getElem?_eq_getElem hi] at hb
    simp only [Bool.or_eq_false_iff, decide_eq_false_iff_not, Option.getD_some] at hb
    omega
  · intro hm i hi
    obtain ⟨a, b, c, d⟩ := hm.1 s[i] (List.getElem_mem hi)
    unfold cbad
    rw [List.getElem?_eq_getElem hi]
    simp only [Bool.or_eq_false_iff, decide_eq_false_iff_not, Option.getD_some]
    refine ⟨⟨?_, by omega⟩, by omega⟩
    cases i with
    | zero => simp only [pre]; omega
    | succ j =>
      have := List.pairwise_iff_getElem.1 hm.2 j (j + 1) (by omega) hi (by omega)
      simp only [pre]
      rw [List.getElem?_eq_getElem (show j < s.length by omega)]
      simp only [Option.getD_some]; omega

set_option maxHeartbeats 400000 in
theorem check_calls (v : Value) (s : List Wd) (w : World) (hs : SetAt w v s) (hok : ∀ x ∈ s, WdOk x) :
    Calls Tryd.prog 14 #[v] w fun e w' => e = .returned (.int .i64 (chk s)) ∧ Below w.heap.size w w' := by
  have HI := hid (cbad_iff hok)
  have HO := hid hok
  clear hok
  obtain ⟨ao, cap, rfl, hl, hm, _⟩ := hs
  go_enter Tryd.func14, Tryd.ntmps14
  go_wp2
  go_loopg [3, 8] s.length (fun g p i wr => ∃ k : Nat, k + g = s.length ∧ i = .int .i64 k ∧ p = .int .i64 (pre s k) ∧ (∀ j, j < k → cbad s j = false) ∧ Below w.heap.size w wr)
  case atStart => exact ⟨0, by omega, rfl, rfl, by omega, Below.refl _ _⟩
  case round =>
    obtain ⟨k, hk, rfl, rfl, hg, hbe⟩ := hrel
    have HG := hid hg
    clear hg
    by_cases hlt : k < s.length
    · obtain ⟨b, off, rfl, hbs, hc⟩ := hm (by omega)
      have c0 := (hbe.cell (p := ⟨b, _, none⟩) hbs).trans (hc k hlt).1
      have c1 := (hbe.cell (p := ⟨b, _, none⟩) hbs).trans (hc k hlt).2
      obtain ⟨x0, x1, y0, y1⟩ := HO.out _ (List.getElem_mem hlt)
      have hbad : cbad s k = (decide (s[k].1 ≤ pre s k) || decide (16384 ≤ s[k].1) || decide (s[k].2 = 0)) := by
        unfold cbad; rw [List.getElem?_eq_getElem hlt]; rfl
      have hpre : pre s (k + 1) = s[k].1 := by
        show (s[k]?.getD (0, 0)).1 = _
        rw [List.getElem?_eq_getElem hlt]; rfl
      have HP := hid hpre
      have HM := hid hm
      clear hc hm hpre
      generalize s[k].1 = x at *
      generalize s[k].2 = y at *
      generalize pre s k = p at *
      have HB := hid hbad
      clear hbad
      have HN : Hid (cbad s k = true → chk s = 8) := by
        intro h
        refine chk_no ?_
        intro hmay
        have := HI.out.2 hmay k hlt
        rw [h] at this; cases this
      have hb2 := hbe.alloc hbe.size (.cells #[.int .i64 x, .int .u64 y] 34)
      by_cases h1 : x ≤ p
      · have HE := hid (HN.out (by rw [HB.out]; simp [h1]))
        go_wp2
        go_ret
        exact ⟨by rw [HE.out]; rfl, hb2⟩
      by_cases h2 : 16384 ≤ x
      · have HE := hid (HN.out (by rw [HB.out]; simp [h2]))
        go_wp2
        go_ret
        exact ⟨by rw [HE.out]; rfl, hb2⟩
      by_cases h3 : y = 0
      · have HE := hid (HN.out (by rw [HB.out]; simp [h3]))
        have hd3 : (y == 0) = true := by simpa using h3
        clear h3
        go_wp2
        go_ret
        exact ⟨by rw [HE.out]; rfl, hb2⟩
      have hd3 : (y == 0) = false := by simpa using h3
      go_wp2
      go_roundg (gk - 1)
      case measure => omega
      case rel => exact ⟨k + 1, by omega, by go_num, by rw [HP.out], (fun j hj => by
          rcases Nat.lt_succ_iff_lt_or_eq.1 hj with h | rfl
          · exact HG.out j h
          · rw [HB.out]; simp [h1, h2, h3]), hb2⟩
    · have HE := hid (chk_yes (HI.out.1 (fun i hi => HG.out i (by omega))))
      go_wp2
      go_ret
      exact ⟨by rw [HE.out]; rfl, hbe⟩
end Go.Proofs.YtecfjjpdlohmnaaDoor.BitCheck
