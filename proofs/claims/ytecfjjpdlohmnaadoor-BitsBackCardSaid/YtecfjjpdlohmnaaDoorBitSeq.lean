/- Walks over bits.numbers and its closure: a range over a function. -/
import Derived.Test.YtecfjjpdlohmnaaDoorSetGP
import Derived.Test.YtecfjjpdlohmnaaDoorBitCheck
import Derived.RangeFuncNested
import Derived.RangeFuncBound
import Derived.RangeFuncCalls
import Derived.RangeFuncLeaves
import Derived.RangeFuncBox
import Derived.Shelf.Abstract
import Derived.Shelf.RegionOpen
import Derived.WalkKit
import Derived.OwnWalkIn
import Derived.TacticsInMore
import Derived.LoopNIn
import Derived.LoopIn
import Derived.Sort.LoopGhostIn
import Derived.Sort.CutIn
import Derived.Stop.RegionWithIn
import Derived.Test.YtecfjjpdlohmnaaDoorBitTz
import Derived.Laws.Bits64b
import Derived.IntWalk
namespace Go.Proofs.YtecfjjpdlohmnaaDoor.BitSeq
open Go.RowKit Go.Lib Go.Shelf SetP SetO SetNum SetIn SetWith SetT SetW2 SetG BitTz
attribute [local go_sem] Oper.semAt_some

/-- what a round keeps: what lay below B, and whatever block holds a word -/
def Keep (B : Nat) (W W' : World) : Prop := Below B W W' ∧ ∀ (k : Nat) (c : Array Value), W.heap[k]? = some (Obj.cells c 34 (0, 0)) → W'.heap[k]? = W.heap[k]?
theorem keep_refl (B : Nat) (W : World) : Keep B W W := ⟨Below.refl _ _, fun _ _ _ => rfl⟩
theorem keep_trans {B : Nat} {a b c : World} (h : Keep B a b) (k : Keep B b c) : Keep B a c :=
  ⟨h.1.trans k.1, fun i cs hi => by have h1 := h.2 i cs hi; exact (k.2 i cs (h1.trans hi)).trans h1⟩

/-- what has come of a round -/
def After (J Jx : List Int → World → Prop) (B : Nat) (cur : List Int) (W : World) (b : Bool) (W' : World) : Prop :=
  if b = true then J cur W' ∧ Keep B W W' else Jx cur W'

theorem take_cur {s : List Wd} {k : Nat} {cur rest : List Int} {x : Int} (h : cur ++ x :: rest = numbers (s.take (k + 1))) : cur.length < (numbers s).length ∧ cur ++ [x] <+: numbers s := by
  have h2 : numbers s = numbers (s.take (k + 1)) ++ numbers (s.drop (k + 1)) := by rw [← numbers_append, List.take_append_drop]
  rw [h2, ← h]
  refine ⟨by simp only [List.length_append, List.length_cons]; omega, ⟨rest ++ numbers (s.drop (k + 1)), by simp⟩⟩

set_option maxRecDepth 100000 in
set_option maxHeartbeats 2000000 in
theorem nums_in (n : Nat) (hn : 4 ≤ n) (l Bs : Nat) (v : Value) (s : List Wd) (w0 : World) (hs : SetAt w0 v s) (hmay : MayW s) (ht : Tab w0) (J Jx : List Int → World → Prop) (W : World) (hb : Below w0.heap.size w0 W) (hJ : AbidesFrom W.heap.size J)
    (hY : ∀ pre x W, J pre W → pre.length < (numbers s).length → YieldAt Fence.wide (n - 1) Tryd.prog l #[.int .i64 x] W fun e W' =>
      (e = .returned (.bool true) ∧ J (pre ++ [x]) W' ∧ Keep w0.heap.size W W') ∨ (e = .returned (.bool false) ∧ Jx (pre ++ [x]) W'))
    (hBs : W.cell? ⟨Bs, 0, none⟩ = some v) (h0 : J [] W) :
    CallsIn Fence.wide n Tryd.prog 40 #[.func (.yield l) #[] #[], .pointer (some ⟨Bs, 0, none⟩)] W fun e W' => (∃ v, e = .returned v) ∧
      ((∃ ys, ys = numbers s ∧ J ys W') ∨ (∃ pre, pre <+: numbers s ∧ Jx pre W')) := by
  obtain ⟨ao, cap, rfl, hl, hm, _⟩ := hs
  have HY : Hid (∀ pre x W, J pre W → pre.length < (numbers s).length → YieldAt Fence.wide (n - 1) Tryd.prog l #[.int .i64 x] W fun e W' => ∃ b, e = .returned (.bool b) ∧ After J Jx w0.heap.size (pre ++ [x]) W b W') := by
    intro pre x W h1 h2
    obtain ⟨fn, tmps, assign, body, hy, hR⟩ := hY pre x W h1 h2
    refine ⟨fn, tmps, assign, body, hy, hR.mono ?_⟩
    rintro e W' (⟨rfl, h3, h4⟩ | ⟨rfl, h3⟩)
    · exact ⟨true, rfl, h3, h4⟩
    · exact ⟨false, rfl, h3⟩
  have HM := hid hm
  have HMAY := hid hmay
  have HT := hid ht
  have HJ := hid hJ
  clear hY hm hmay ht hJ
  refine callsIn_of_wp Tryd.func40 rfl trivial ?_ rfl
  simp only [Tryd.ntmps40, List.size_toArray, List.length_cons, List.length_nil, Nat.reduceAdd, Nat.reduceSub, Array.replicate_succ, Array.replicate_zero, List.push_toArray, List.append_toArray, List.nil_append, List.cons_append]
  gi_wp2
  gi_loopg [8] s.length (fun g i wr => ∃ k : Nat, k + g = s.length ∧ i = .int .i64 k ∧ J (numbers (s.take k)) wr ∧ Below w0.heap.size w0 wr ∧ Below W.heap.size W W)
  case atStart => exact ⟨0, by omega, rfl, h0, hb, Below.refl _ _⟩
  case round =>
    obtain ⟨k, hk, rfl, hj, hbe, _⟩ := hrel
    by_cases hlt : k < s.length
    · obtain ⟨b, off, rfl, hbs, hc⟩ := HM.out (by omega)
      have c0 := (hbe.cell (p := ⟨b, _, none⟩) hbs).trans (hc k hlt).1
      have c1 := (hbe.cell (p := ⟨b, _, none⟩) hbs).trans (hc k hlt).2
      obtain ⟨x0, x1, y0, y1⟩ := HMAY.out.1 _ (List.getElem_mem hlt)
      have HNT := hid (numbers_take hlt)
      clear hc
      generalize s[k].1 = x at *
      obtain ⟨y, hy⟩ : ∃ y : Nat, s[k].2 = (y : Int) := ⟨s[k].2.toNat, by omega⟩
      rw [hy] at c1 y1 HNT
      have HN2 : Hid (numbers (s.take (k + 1)) = numbers (s.take k) ++ bitNums x y 64) := by
        show _ = _
        rw [HNT.out, Int.toNat_natCast]
      clear HNT hy
      have HJ1 := hid (HJ.out _ _ _ none hj (World.grownBy_alloc wr (.cells #[.int .i64 x, .int .u64 (y : Int)] 34) none) (fun r e => by cases e))
      have HBX := hid (heap_alloc_new wr (.cells #[.int .i64 x, .int .u64 (y : Int)] 34))
      have HB1 := hid (hbe.alloc hbe.size (.cells #[.int .i64 x, .int .u64 (y : Int)] 34))
      have HSZ : Hid (wr.heap.size < (wr.alloc (.cells #[.int .i64 x, .int .u64 (y : Int)] 34)).heap.size) := by show _ < _; simp
      clear hj hbe
      gi_wp2
      generalize wr.alloc (.cells #[.int .i64 x, .int .u64 (y : Int)] 34) = wi at *
      generalize wr.heap.size = Bw at *
      gi_loopg [5] 64 (fun g2 r wr => ∃ (z : Nat) (cur : List Int), (bitNums x z 64).length ≤ g2 ∧ r = .int .u64 (z : Int) ∧ z < 18446744073709551616 ∧ cur ++ bitNums x z 64 = numbers (s.take (k + 1)) ∧ J cur wr ∧ Below w0.heap.size w0 wr ∧ wr.heap[Bw]? = some (.cells #[.int .i64 x, .int .u64 (y : Int)] 34 (0, 0)))
      case atStart => exact ⟨y, numbers (s.take k), bitNums_length _ _ _, rfl, by omega, HN2.out.symm, HJ1.out, HB1.out, HBX.out⟩
      case round =>
        obtain ⟨z, cur, hg2, rfl, hz, hcur, hj, hbe, hbx⟩ := hrel
        have HCUR := hid hcur
        have HG2 := hid hg2
        clear hcur hg2 HJ1 HB1 HBX HN2
        by_cases hz0 : z = 0
        · subst hz0
          rw [bitNums_zero, List.append_nil] at HCUR
          have hd : (((0 : Nat) : Int) != 0) = false := by simp
          gi_wp2
          gi_roundg (s.length - (k + 1))
          case measure => omega
          case rel => exact ⟨k + 1, by omega, by go_num, by rw [← HCUR.out]; exact hj, hbe, Below.refl _ _⟩
        · have hd : ((z : Int) != 0) = true := by simp; omega
          obtain ⟨hlow, hct⟩ := low_out (a := x) (y := z) (by omega) hz0
          have hc64 : 64 * x + ((ctz 64 z : Nat) : Int) ≤ 1048639 := by omega
          have HC2 : Hid (cur ++ (64 * x + ((ctz 64 z : Nat) : Int)) :: bitNums x (z &&& (z - 1)) 64 = numbers (s.take (k + 1))) := by show _ = _; rw [← hlow]; exact HCUR.out
          have HLEN : Hid ((bitNums x z 64).length = (bitNums x (z &&& (z - 1)) 64).length + 1) := by show _ = _; rw [hlow]; rfl
          have HTZ := hid (tz_calls z hz hz0 wr.drew (HT.out.on hbe.drew))
          have hand := bits_and_u64_nat z (z - 1) hz (by omega)
          have hsub : ((z : Int) - 1) = ((z - 1 : Nat) : Int) := by omega
          have hj2 := HJ.out
          have hjd := HJ.out _ _ wr.drew none hj ⟨rfl, rfl, rfl, Nat.le_refl _, fun _ _ _ => rfl⟩ (fun r e => by cases e)
          generalize ctz 64 z = c at *
          have hmul : 64 * x = x * 64 := Int.mul_comm _ _
          rw [hmul] at HC2 hc64
          have hw1 : IntKind.i64.wrap (x * 64) = x * 64 := IntWalk.i64_in _ (by omega)
          have hw2 : IntKind.i64.wrap (x * 64 + (c : Int)) = x * 64 + (c : Int) := IntWalk.i64_in _ (by omega)
          obtain ⟨fn, tmps, assign, body, hy, hR⟩ := HY.out cur (x * 64 + (c : Int)) wr.drew hjd (take_cur HC2.out).1
          have HR := hid hR
          have cx0 : wr.cell? ⟨Bw, 0, none⟩ = some (.int .i64 x) := by simp [World.cell?, hbx]
          clear hlow hjd hj2 hz0 hR hmul
          have hnot : ∀ (x : Bool) (w : World), (Op.unary .not (.bool x)).run Tryd.prog w = .ok (.bool (!x)) w := fun _ _ => rfl
          have hn1 : 1 ≤ n := by omega
          gi_wp2
          gi_region_with (first | (refine ⟨trivial, ?_⟩; gi_at_call 41; refine (callsIn_wide.2 HTZ.out).mono ?_; rintro e w' ⟨rfl, rfl⟩) | (refine HR.out.mono ?_; rintro e W' ⟨bo, rfl, haf⟩))
          all_goals
            cases bo
            · have HX : Hid (Jx (cur ++ [x * 64 + (c : Int)]) W') := haf
              clear haf
              gi_wp2
              refine bodyPost_ret (results_none rfl _ _ _) rfl ?_
              exact ⟨⟨_, rfl⟩, .inr ⟨_, (take_cur HC2.out).2, HX.out⟩⟩
            · obtain ⟨hja, hka⟩ : J (cur ++ [x * 64 + (c : Int)]) W' ∧ Keep w0.heap.size wr.drew W' := haf
              have hbx2 : W'.heap[Bw]? = some (.cells #[.int .i64 x, .int .u64 (y : Int)] 34 (0, 0)) := (hka.2 _ _ hbx).trans hbx
              have hbe2 := hbe.drew.trans hka.1
              have HC3 : Hid ((cur ++ [x * 64 + (c : Int)]) ++ bitNums x (z &&& (z - 1)) 64 = numbers (s.take (k + 1))) := by
                show _ = _
                rw [List.append_assoc]; exact HC2.out
              have hzl : z &&& (z - 1) < 18446744073709551616 := Nat.lt_of_le_of_lt Nat.and_le_left hz
              have hg3 : (bitNums x (z &&& (z - 1)) 64).length ≤ gk - 1 := by have := HLEN.out; have := HG2.out; omega
              clear hka hw1 hw2 hy
              gi_wp2
              gi_roundg (gk - 1)
              case measure => have := HLEN.out; have := HG2.out; omega
              case rel => exact ⟨z &&& (z - 1), _, hg3, rfl, hzl, HC3.out, hja, hbe2, hbx2⟩
    · obtain rfl : k = s.length := by omega
      rw [List.take_length] at hj
      gi_wp2
      go_end0
      exact ⟨⟨_, rfl⟩, .inl ⟨_, rfl, hj⟩⟩
end Go.Proofs.YtecfjjpdlohmnaaDoor.BitSeq
