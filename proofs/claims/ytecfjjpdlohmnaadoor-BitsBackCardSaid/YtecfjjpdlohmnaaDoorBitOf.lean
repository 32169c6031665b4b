/- Walk over bits.Of. -/
import Derived.Test.YtecfjjpdlohmnaaDoorBitOfP
import Derived.Deep.LoopGhost
import Derived.RegionTactic
import Derived.IntWalk
import Derived.Laws.MakeOwn
namespace Go.Proofs.YtecfjjpdlohmnaaDoor.BitOf
open Go.RowKit Go.Lib SetP SetO SetNum SetIn SetWith SetT SetW2 SetF BitOfP

theorem info_u64 : (Tryd.prog.info? 32).map (fun i => (i.zero, i.size, i.bytes)) = some (some (.int .u64 0), 1, 8) := by kernel_rfl

/-- make([]uint64, m) -/
theorem make_words (m : Nat) (hm : m ≤ 16384) (w : World) : (Instr.makeSlice 55 (.int .i64 (m : Int)) (.int .i64 (m : Int))).run Tryd.prog w =
    .ok (.slice (some ⟨w.heap.size, 0, none⟩) m m) (w.alloc (.cells (wordCells (fun _ => 0) m) 32)) := by
  obtain ⟨i0, hi, hz0, hz1, hz2⟩ := info_parts info_u64
  have := run_make (P := Tryd.prog) w 55 32 i0 (.int .u64 0) Tryd.underlying55 hi hz0 .i64 .i64 m m (by omega) (by omega) (by rw [hz2]; omega) (by omega)
  rw [hz1, Int.toNat_natCast, Nat.mul_one, wordCells_zero] at this
  exact this

set_option maxHeartbeats 2000000 in
theorem of_good (v : Value) (l : List Int) (w : World) (hl : IntsAt w v l) (hin : ∀ n ∈ l, 0 ≤ n ∧ n < 1048576) :
    Calls Tryd.prog 8 #[v] w (OwnSR (withAll [] l) 0 w) := by
  obtain ⟨i0, hi, hz0, hz1, hz2⟩ := info_parts info_wd
  have HSET := hid (set_of hin)
  have HIN := hid hin
  have HMX := hid (mx_lt hin)
  clear hin
  obtain ⟨ao, cap, rfl, hll, hm, _⟩ := hl
  have HM := hid hm
  have HMay := hid may_calls
  clear hm
  go_enter Tryd.func8, Tryd.ntmps8
  go_wp2
  go_loopg [4, 15] l.length (fun g p i wr => ∃ k : Nat, k + g = l.length ∧ i = .int .i64 k ∧ p = .int .i64 (mx (l.take k)) ∧ w = wr)
  case atStart => exact ⟨0, by omega, rfl, rfl, rfl⟩
  case round =>
    obtain ⟨k, hk, rfl, rfl, rfl⟩ := hrel
    by_cases hlt : k < l.length
    · obtain ⟨b, off, rfl, hbs, hc⟩ := HM.out (by omega)
      have c0 := hc k hlt
      obtain ⟨n0, n1⟩ := HIN.out _ (List.getElem_mem hlt)
      have HS := hid (mx_succ hlt)
      clear hc
      generalize l[k] = n at *
      generalize mx (l.take k) = q at *
      have HD := hid (decide_eq_true (p := 0 ≤ n ∧ n < 1048576) ⟨n0, n1⟩)
      have hnot : ∀ (x : Bool) (w : World), (Op.unary .not (.bool x)).run Tryd.prog w = .ok (.bool (!x)) w := fun _ _ => rfl
      have HMn := HMay.out n
      rw [HD.out] at HMn
      have HMN := hid HMn
      clear HMn
      go_wp2_with fail
      refine (HMN.out _).mono ?_
      rintro e w1 ⟨rfl, rfl⟩
      go_wp2
      all_goals
        go_roundg (gk - 1)
        case measure => omega
        case rel => exact ⟨k + 1, by omega, by go_num, by (rw [HS.out]; congr 1; omega), rfl⟩
    · obtain rfl : k = l.length := by omega
      rw [List.take_length]
      have h0 := (mx_le l).1
      have h1 := HMX.out
      obtain ⟨m, hmm⟩ : ∃ m : Nat, (mx l / 64).toNat + 1 = m := ⟨_, rfl⟩
      rw [hmm] at HSET
      have hmk := make_words m (by omega)
      have e2 : mx l / 64 + 1 = (m : Int) := by omega
      have HMXL := hid (mx_le l).2
      generalize mx l = p at *
      go_wp2_with fail
      clear hmk
      have hb0 : Below w.heap.size w (w.alloc (.cells (wordCells (fun _ => 0) m) 32)) := (Below.refl _ _).alloc (Nat.le_refl _) _
      have hw0 : (w.alloc (.cells (wordCells (fun _ => 0) m) 32)).heap[w.heap.size]? = some (.cells (wordCells (fun _ => 0) m) 32 (0, 0)) := heap_alloc_new w _
      have HB0 := hid hb0
      have HW0 := hid hw0
      have HE2 := hid e2
      clear hb0 hw0 e2 hmm
      generalize w.alloc (.cells (wordCells (fun _ => 0) m) 32) = ws at *
      go_loopg [32] l.length (fun g i wr => ∃ k : Nat, k + g = l.length ∧ i = .int .i64 k ∧ wr.heap[w.heap.size]? = some (.cells (wordCells (wordsOf (l.take k)) m) 32 (0, 0)) ∧ Below w.heap.size w wr)
      case atStart => exact ⟨0, by omega, rfl, HW0.out, HB0.out⟩
      case round =>
        obtain ⟨k, hk, rfl, hws, hbe⟩ := hrel
        by_cases hlt : k < l.length
        · obtain ⟨b, off, rfl, hbs, hc⟩ := HM.out (by omega)
          have c0 := (hbe.cell (p := ⟨b, _, none⟩) hbs).trans (hc k hlt)
          obtain ⟨n0, n1⟩ := HIN.out _ (List.getElem_mem hlt)
          have HS := hid (wordsOf_succ hlt)
          have hle := HMXL.out _ (List.getElem_mem hlt)
          clear hc
          generalize l[k] = n at *
          obtain ⟨q, hq⟩ : ∃ q : Nat, n / 64 = (q : Int) := ⟨(n / 64).toNat, by omega⟩
          obtain ⟨r, hr⟩ : ∃ r : Nat, n % 64 = (r : Int) := ⟨(n % 64).toNat, by omega⟩
          have hqt : n.tdiv 64 = (q : Int) := by rw [Int.tdiv_eq_ediv_of_nonneg n0]; exact hq
          have hrt : n.tmod 64 = (r : Int) := by rw [Int.tmod_eq_emod_of_nonneg n0]; exact hr
          have hqm : q < m := by have := HE2.out; omega
          have hqm' : (q : Int) < (m : Int) := by omega
          have hq0 : (0 : Int) ≤ (q : Int) := by omega
          have hr64 : r < 64 := by omega
          have cq := words_cell (f := wordsOf (l.take k)) hws hqm
          have fq := words_frozen (q := q) hws
          have hsh : IntKind.u64.wrap ((2 : Int) ^ r) = ((2 ^ r : Nat) : Int) := by
            have hp : 2 ^ r < 18446744073709551616 := Nat.lt_of_lt_of_le (Nat.pow_lt_pow_right (by decide) hr64) (by decide)
            have e : ((2 : Int) ^ r) = ((2 ^ r : Nat) : Int) := by simp
            rw [IntKind.wrap_u64, e]
            generalize 2 ^ r = pr at *
            omega
          have hor : bits .or .u64 ((wordsOf (l.take k) q : Nat) : Int) ((2 ^ r : Nat) : Int) = ((wordsOf (l.take k) q ||| 2 ^ r : Nat) : Int) :=
            bits_or_u64_nat _ _ (wordsOf_lt _ _) (Nat.lt_of_lt_of_le (Nat.pow_lt_pow_right (by decide) hr64) (by decide))
          have hnew : wordsOf (l.take (k + 1)) q = wordsOf (l.take k) q ||| 2 ^ r := by
            rw [HS.out]; unfold upd; rw [if_pos (by omega)]
            congr 2; omega
          have hset : (wr.setCell ⟨w.heap.size, q, none⟩ (.int .u64 ((wordsOf (l.take k) q ||| 2 ^ r : Nat) : Int))).heap[w.heap.size]? = some (.cells (wordCells (wordsOf (l.take (k + 1))) m) 32 (0, 0)) := by
            rw [← hnew]
            refine words_set hws fun p hp => ?_
            by_cases e : p = q
            · rw [if_pos e, e]
            · rw [if_neg e, HS.out]; unfold upd; rw [if_neg (by omega)]
          have HSET2 := hid hset
          have HWS := hid hws
          clear hset hnew hws HS
          have hbe2 := hbe.setCell (p := ⟨w.heap.size, q, none⟩) (Nat.le_refl _) (.int .u64 ((wordsOf (l.take k) q ||| 2 ^ r : Nat) : Int))
          generalize wordsOf (l.take k) q = z at *
          generalize 2 ^ r = pr at *
          go_wp2_with fail
          go_region
          all_goals
            go_wp2
            go_roundg (gk - 1)
            case measure => omega
            case rel => exact ⟨k + 1, by omega, by go_num, HSET2.out, hbe2.drew⟩
        · obtain rfl : k = l.length := by omega
          rw [List.take_length] at hws
          have hfl := wordsOf_lt l
          have HFL := hid hfl
          clear hfl HIN HMay HMXL
          generalize wordsOf l = f at *
          have hm16 : m ≤ 16384 := by have := HE2.out; omega
          clear HB0 HW0 HM
          obtain ⟨wo, hwo⟩ : ∃ wo : World, wo = wr := ⟨wr, rfl⟩
          subst hwo
          have HWS := hid hws
          have HBO := hid hbe
          clear hws hbe
          go_wp2_with fail
          go_loopg [10, 49] m (fun g o i wr => ∃ k c : Nat, k + g = m ∧ i = .int .i64 k ∧ wr.ownsRow w.heap.size 34 2 o c (wdVals (setW f k)) ∧ wr.heap[w.heap.size]? = some (.cells (wordCells f m) 32 (0, 0)) ∧ Below w.heap.size w wr)
          case atStart => exact ⟨0, 0, by omega, rfl, World.ownsRow_nil _ _ _ _, HWS.out, HBO.out⟩
          case round =>
            obtain ⟨k, c, hk, rfl, hown, hws, hbe⟩ := hrel
            by_cases hlt : k < m
            · have ck := words_cell (f := f) hws hlt
              have hck : c ≤ 16384 := by
                have h1 := hown.1
                rw [wdVals_length] at h1
                have := setW_length f k
                omega
              have HSu := hid (setW_succ f k)
              by_cases hz : f k = 0
              · have hd : ((f k : Nat) : Int) = 0 := by omega
                have hd2 : (((f k : Nat) : Int) != 0) = false := by simp [hd]
                have HZ := hid hz
                clear hz hd
                go_wp2
                go_roundg (gk - 1)
                case measure => omega
                case rel => exact ⟨k + 1, c, by omega, by go_num, by rw [HSu.out, if_pos HZ.out, List.append_nil]; exact hown, hws, hbe⟩
              · have hd2 : (((f k : Nat) : Int) != 0) = true := by simp; omega
                have HZ := hid hz
                have HWS2 := hid hws
                clear hz hws
                go_wp2_with (first
                  | (at_builtin; refine wpList_append_own _ rfl _ _ 23 rfl w.heap.size 34 i0 (.agg #[.int .i64 0, .int .u64 0]) 2 16 Tryd.underlying23 hi hz0 hz1 hz2 rfl (by decide) _ c (wdVals (setW f k)) rfl (hown.alloc _) ⟨wr.heap.size, 0, none⟩ 1 1 [.int .i64 (k : Int), .int .u64 ((f k : Nat) : Int)] rfl rfl ?c1 ?c2 ?c3 ?c4 ?c5 ?_)
                  | go_in)
                case c1 => exact cell_two_new _ _ _ _
                case c2 => intro u hu; simp at hu; rcases hu with rfl | rfl <;> rfl
                case c3 => unfold maxLen; omega
                case c4 => omega
                case c5 => have := hbe.size; simp; omega
                · intro v' w1 hown' hgrow _
                  have hlt3 := hown.lt
                  have hbe1 : Below w.heap.size w w1 := (hbe.alloc hbe.size _).grown hgrow (by have := hbe.size; simp; omega) (fun g hg => (hlt3 g hg).1)
                  have hlw : w.heap.size < wr.heap.size := (Array.getElem?_eq_some_iff.1 HWS2.out).1
                  have hws1 : w1.heap[w.heap.size]? = some (.cells (wordCells f m) 32 (0, 0)) := by
                    rw [hgrow.block w.heap.size (by simp; omega) (fun e => ?_), Below.heap_alloc _ _ _ hlw]
                    · exact HWS2.out
                    · rcases hown.2 with ⟨rfl, _⟩ | ⟨g, cap, cur, rfl, _, hgb, _⟩
                      · simp [Value.ownBlock] at e
                      · have e2 : w.heap.size = g := by simpa [Value.ownBlock] using e
                        rw [← e2, HWS2.out] at hgb
                        simp at hgb
                  rw [show wdVals (setW f k) ++ [.int .i64 (k : Int), .int .u64 ((f k : Nat) : Int)] = wdVals (setW f (k + 1)) by rw [HSu.out, if_neg HZ.out, wdVals_append]; rfl] at hown'
                  clear hown hgrow hbe hlt3 ck
                  go_wp2
                  go_roundg (gk - 1)
                  case measure => omega
                  case rel => exact ⟨k + 1, c + 1, by omega, by go_num, hown', hws1, hbe1⟩
            · obtain rfl : k = m := by omega
              rw [HSET.out] at hown
              have HO := hid hown
              clear hown hws
              go_wp2
              go_ret2
              exact ⟨_, c, rfl, HO.out, hbe⟩

set_option maxHeartbeats 1000000 in
theorem of_bad (v : Value) (l : List Int) (w : World) (hl : IntsAt w v l) (hin : ¬ ∀ n ∈ l, 0 ≤ n ∧ n < 1048576) :
    Calls Tryd.prog 8 #[v] w (OwnSR [] 2 w) := by
  have HIN := hid hin
  clear hin
  obtain ⟨ao, cap, rfl, hll, hm, _⟩ := hl
  have HM := hid hm
  have HMay := hid may_calls
  clear hm
  go_enter Tryd.func8, Tryd.ntmps8
  go_wp2
  go_loopg [4, 15] l.length (fun g p i wr => ∃ k : Nat, k + g = l.length ∧ i = .int .i64 k ∧ p = .int .i64 (mx (l.take k)) ∧ (∀ j (h : j < l.length), j < k → 0 ≤ l[j] ∧ l[j] < 1048576) ∧ w = wr)
  case atStart => exact ⟨0, by omega, rfl, rfl, (fun j h hj => by omega), rfl⟩
  case round =>
    obtain ⟨k, hk, rfl, rfl, hg, rfl⟩ := hrel
    have HG := hid hg
    clear hg
    by_cases hlt : k < l.length
    · obtain ⟨b, off, rfl, hbs, hc⟩ := HM.out (by omega)
      have c0 := hc k hlt
      have HS := hid (mx_succ hlt)
      have HX : Hid (0 ≤ l[k] ∧ l[k] < 1048576 → ∀ j (h : j < l.length), j < k + 1 → 0 ≤ l[j] ∧ l[j] < 1048576) := by
        intro hp j h hj
        rcases Nat.lt_succ_iff_lt_or_eq.1 hj with h2 | rfl
        · exact HG.out j h h2
        · exact hp
      clear hc
      generalize l[k] = n at *
      generalize mx (l.take k) = q at *
      have hnot : ∀ (x : Bool) (w : World), (Op.unary .not (.bool x)).run Tryd.prog w = .ok (.bool (!x)) w := fun _ _ => rfl
      have HMn := HMay.out n
      by_cases hp : 0 ≤ n ∧ n < 1048576
      · rw [decide_eq_true hp] at HMn
        have HMN := hid HMn
        have HX2 := hid (HX.out hp)
        clear HMn hp HX
        go_wp2_with fail
        refine (HMN.out _).mono ?_
        rintro e w1 ⟨rfl, rfl⟩
        go_wp2
        all_goals
          go_roundg (gk - 1)
          case measure => omega
          case rel => exact ⟨k + 1, by omega, by go_num, by (rw [HS.out]; congr 1; omega), HX2.out, rfl⟩
      · rw [decide_eq_false hp] at HMn
        have HMN := hid HMn
        clear HMn hp HX
        go_wp2_with fail
        refine (HMN.out _).mono ?_
        rintro e w1 ⟨rfl, rfl⟩
        go_wp2
        go_ret2
        exact ⟨_, 0, rfl, World.ownsRow_nil _ _ _ _, Below.refl _ _⟩
    · exfalso
      refine HIN.out fun n hn => ?_
      obtain ⟨j, hj, rfl⟩ := List.mem_iff_getElem.1 hn
      exact HG.out j hj (by omega)

/-- what Of answers -/
def okL (l : List Int) : Bool := l.all fun n => decide (0 ≤ n ∧ n < 1048576)
theorem okL_iff {l : List Int} : okL l = true ↔ ∀ n ∈ l, 0 ≤ n ∧ n < 1048576 := by simp [okL]
def ofS (l : List Int) : List Wd := if okL l = true then withAll [] l else []
def ofE (l : List Int) : Int := if okL l = true then 0 else 2
theorem of_calls (v : Value) (l : List Int) (w : World) (hl : IntsAt w v l) : Calls Tryd.prog 8 #[v] w (OwnSR (ofS l) (ofE l) w) := by
  unfold ofS ofE
  by_cases h : okL l = true
  · rw [if_pos h, if_pos h]; exact of_good v l w hl (okL_iff.1 h)
  · rw [if_neg h, if_neg h]; exact of_bad v l w hl (fun e => h (okL_iff.2 e))
theorem of_may (l : List Int) : MayW (ofS l) := by
  unfold ofS
  split
  · rename_i h
    exact all_may l mayw_nil (okL_iff.1 h)
  · exact mayw_nil
end Go.Proofs.YtecfjjpdlohmnaaDoor.BitOf
