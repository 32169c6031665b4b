/- Walk over fescueref02.Numbers. -/
import Derived.Test.YtecfjjpdlohmnaaDoorSetO
import Derived.Deep.LoopGhost
namespace Go.Proofs.YtecfjjpdlohmnaaDoor.SetNum
open Go.RowKit Go.Lib SetP SetO

/-- words within the limits -/
def WdIn (x : Wd) : Prop := 0 ≤ x.1 ∧ x.1 < 16384 ∧ 0 ≤ x.2 ∧ x.2 ≤ 18446744073709551615

/-- what is answered: a slice of the call's own, that owns these numbers -/
def OwnI (l : List Int) (w : World) (e : Ending) (w' : World) : Prop := ∃ u n, e = .returned u ∧ w'.ownsRow w.heap.size 3 1 u n (intVals l) ∧ Below w.heap.size w w'

set_option maxHeartbeats 1000000 in
theorem numbers_calls (v : Value) (s : List Wd) (w : World) (hs : SetAt w v s) (hin : ∀ x ∈ s, WdIn x) (hlen : s.length ≤ 16384) :
    Calls Tryd.prog 33 #[v] w (OwnI (numbers s) w) := by
  obtain ⟨i0, hi, hz0, hz1, hz2⟩ := info_parts info_int
  obtain ⟨ao, cap, rfl, hl, hm, _⟩ := hs
  go_enter Tryd.func33, Tryd.ntmps33
  go_wp2
  go_loopg [3, 4] s.length (fun g o i wr => ∃ k n : Nat, k + g = s.length ∧ i = .int .i64 k ∧ wr.ownsRow w.heap.size 3 1 o n (intVals (numbers (s.take k))) ∧ Below w.heap.size w wr)
  case atStart => exact ⟨0, 0, by omega, rfl, World.ownsRow_nil _ _ _ _, Below.refl _ _⟩
  case round =>
    obtain ⟨k, n, hk, rfl, hown, hbe⟩ := hrel
    by_cases hlt : k < s.length
    · obtain ⟨b, off, rfl, hbs, hc⟩ := hm (by omega)
      have HC0 : Hid (∀ wx, Below w.heap.size w wx → wx.cell? ⟨b, off + k * 2, none⟩ = some (.int .i64 s[k].1)) := fun wx hb => (hb.cell (p := ⟨b, _, none⟩) hbs).trans (hc k hlt).1
      have c1 : wr.cell? ⟨b, off + k * 2 + 1, none⟩ = some (.int .u64 s[k].2) := (hbe.cell (p := ⟨b, _, none⟩) hbs).trans (hc k hlt).2
      obtain ⟨x0, x1, y0, y1⟩ := hin _ (List.getElem_mem hlt)
      have HT := hid (numbers_take hlt)
      clear hc hm hin
      generalize s[k].1 = x at *
      obtain ⟨y, hy⟩ : ∃ y : Nat, (y : Int) = s[k].2 := ⟨s[k].2.toNat, by omega⟩
      rw [← hy] at c1 y1
      have HT2 : Hid (numbers (s.take (k + 1)) = numbers (s.take k) ++ bitNums x y 64) := by
        show _ = _
        rw [HT.out, ← hy]; rfl
      clear HT y0 hy
      have hnl := numbers_length (s.take k)
      have htl : (s.take k).length ≤ k := List.length_take_le _ _
      generalize numbers (s.take k) = l0 at *
      obtain ⟨wo, hwo⟩ : ∃ wo : World, wo = wr := ⟨wr, rfl⟩
      subst hwo
      go_wp2
      go_loopg [3, 5, 6] 64 (fun g2 o r i wr => ∃ j n : Nat, j + g2 = 64 ∧ i = .int .i64 j ∧ r = .int .u64 ((y / 2 ^ j : Nat) : Int) ∧ wr.ownsRow w.heap.size 3 1 o n (intVals (l0 ++ bitNums x y j)) ∧ Below w.heap.size w wr)
      case atStart => exact ⟨0, n, rfl, rfl, by simp, by simpa [bitNums] using hown, hbe⟩
      case round =>
        clear hown hbe c1
        obtain ⟨j, n, hj, rfl, rfl, hown, hbe⟩ := hrel
        have hsu := bitNums_succ x y j
        have hdv : y / 2 ^ (j + 1) = y / 2 ^ j / 2 := by rw [Nat.pow_succ, Nat.div_div_eq_div_mul]
        have hr1 : y / 2 ^ j ≤ y := Nat.div_le_self _ _
        have hbl := bitNums_length x y j
        by_cases hlt2 : j < 64
        · have c0 := HC0.out wr hbe
          generalize y / 2 ^ j = r at *
          generalize hL : bitNums x y j = l1 at *
          clear hL
          by_cases hbit : r % 2 = 1
          · rw [if_pos hbit] at hsu
            have HS := hid hsu
            have HD := hid hdv
            have hd1 : ((r : Int) % 2 == 1) = true := by simp; omega
            clear hsu hdv hbit
            have hn : n = (l0 ++ l1).length := by have := hown.1; rw [intVals_length] at this; omega
            have HN : Hid (n ≤ 16384 * 64 + 64) := by
              show n ≤ _
              rw [hn, List.length_append]
              omega
            clear hn
            go_wp2_with (first
              | (at_builtin; refine wpList_append_own _ rfl _ _ 27 rfl w.heap.size 3 i0 (.int .i64 0) 1 8 Tryd.underlying27 hi hz0 hz1 hz2 rfl (by decide) _ _ _ rfl (hown.alloc _) ⟨wr.heap.size, 0, none⟩ 1 1 [.int .i64 (64 * x + (j : Int))] rfl rfl ?c1 ?c2 ?c3 ?c4 ?c5 ?_)
              | go_in)
            case c1 => exact cell_one_new _ _ _
            case c2 => intro u hu; simp at hu; subst hu; rfl
            case c3 => have := HN.out; unfold maxLen; omega
            case c4 => have := HN.out; omega
            case c5 => have := hbe.size; simp; omega
            · intro v' w1 hown' hgrow _
              have hlt3 := hown.lt
              have hbe1 : Below w.heap.size w w1 := (hbe.alloc hbe.size _).grown hgrow (by have := hbe.size; simp; omega) (fun g hg => (hlt3 g hg).1)
              clear hown hgrow hbe hlt3
              go_wp2
              go_roundg (gk - 1)
              case measure => omega
              case rel => exact ⟨j + 1, _, by omega, by go_num, by rw [HD.out]; go_num, by rw [HS.out, ← List.append_assoc]; simpa [intVals] using hown', hbe1⟩
          · rw [if_neg hbit, List.append_nil] at hsu
            have HS := hid hsu
            have HD := hid hdv
            have hd1 : ((r : Int) % 2 == 1) = false := by simp; omega
            clear hsu hdv hbit
            go_wp2
            go_roundg (gk - 1)
            case measure => omega
            case rel => exact ⟨j + 1, _, by omega, by go_num, by rw [HD.out]; go_num, by rw [HS.out]; exact hown, hbe⟩
        · obtain rfl : j = 64 := by omega
          go_wp2
          go_roundg (s.length - (k + 1))
          case measure => omega
          case rel => exact ⟨k + 1, _, by omega, by go_num, by rw [HT2.out]; exact hown, hbe⟩
    · obtain rfl : k = s.length := by omega
      rw [List.take_length] at hown
      go_wp2
      go_ret
      exact ⟨_, _, rfl, hown, hbe⟩
end Go.Proofs.YtecfjjpdlohmnaaDoor.SetNum
