/- Walk over bits.List. -/
import Derived.Test.YtecfjjpdlohmnaaDoorBitSeq
import Derived.Test.YtecfjjpdlohmnaaDoorBitOnes
import Derived.Maps.AppendAt
import Derived.Laws.MakeOwn
namespace Go.Proofs.YtecfjjpdlohmnaaDoor.BitList
open Go.RowKit Go.Lib Go.Shelf SetP SetO SetNum SetIn SetWith SetT SetW2 SetG BitTz BitSeq BitCheck BitOnes
attribute [local go_sem] Oper.semAt_some

theorem seq_in (n : Nat) (v : Value) (hv : ∃ a k c, v = .slice a k c) (w : World) :
    CallsIn Fence.wide n Tryd.prog 31 #[v] w fun e w' => e = .returned (.func (.func 40) #[] #[.pointer (some ⟨w.heap.size, 0, none⟩)]) ∧ w.alloc (.cells #[v] 23) = w' := by
  obtain ⟨a, k, c, rfl⟩ := hv
  refine callsIn_of_wp Tryd.func31 rfl trivial ?_ rfl
  simp only [Tryd.ntmps31, List.size_toArray, List.length_cons, List.length_nil, Nat.reduceAdd, Nat.reduceSub, Array.replicate_succ, Array.replicate_zero, List.push_toArray, List.append_toArray, List.nil_append, List.cons_append]
  gi_wp2
  go_ret
  exact ⟨rfl, rfl⟩

theorem nums_stops (n : Nat) (hn : 4 ≤ n) (Bs : Nat) (v : Value) (s : List Wd) (w0 w : World) (hs : SetAt w0 v s) (hmay : MayW s) (ht : Tab w0) (hb : Below w0.heap.size w0 w) (hBs : w.cell? ⟨Bs, 0, none⟩ = some v) :
    SeqStopsK Fence.wide n Tryd.prog 40 #[.pointer (some ⟨Bs, 0, none⟩)] (fun x : Int => #[Value.int .i64 x]) (Keep w0.heap.size) (fun ys => ys = numbers s) (fun pre => pre <+: numbers s) (numbers s).length w :=
  fun l J Jx W hW hJ _ hY h0 => nums_in n hn l Bs v s w0 hs hmay ht J Jx W (hb.trans (hW.mono hb.size)) hJ hY ((hW.cell (p := ⟨Bs, 0, none⟩) (World.block_lt_of_cell? w _ hBs)).trans hBs) h0

theorem keep_b {B : Nat} {w : World} (hw : B ≤ w.heap.size) (W : World) (l : Nat) (o o' : Obj) (hl : w.heap.size ≤ l) (ho : W.heap[l]? = some o) (hc : o.isCells = false) (hk : o.isWalk = false) : Keep B W (W.putObj l o') := by
  refine ⟨belowK_b (w := w) hw W l o o' hl ho hc hk, fun k c h => World.putObj_heap_other fun e => ?_⟩
  subst e
  rw [ho] at h
  cases h
  cases hc
theorem keep_app {W w1 : World} {B Bl : Nat} {v v' u : Value} {n : Nat} {xs : List Value} (hb : Below B W (w1.setCell ⟨Bl, 0, none⟩ v')) (hv : Boxed W Bl 27 v) (hrow : W.ownsRow B 3 1 v n xs) (hgrow : (W.alloc (.cells #[u] 3)).grownBy w1 v.ownBlock) :
    Keep B W (w1.setCell ⟨Bl, 0, none⟩ v') := by
  refine ⟨hb, fun k c h => ?_⟩
  have hlt := (Array.getElem?_eq_some_iff.1 h).1
  rw [Below.heap_setCell w1 ⟨Bl, 0, none⟩ v' k (fun e => ?_), hgrow.block k (by simp; omega) (fun e => ?_), Below.heap_alloc _ _ _ hlt]
  · rcases hrow.2 with ⟨rfl, _⟩ | ⟨g, cap, cur, rfl, _, hgb, _⟩
    · simp [Value.ownBlock] at e
    · obtain rfl : k = g := by simpa [Value.ownBlock] using e
      rw [h] at hgb; simp at hgb
  · subst e
    have := (show W.heap[k]? = _ from hv).symm.trans h
    simp at this

set_option maxRecDepth 100000 in
set_option maxHeartbeats 2000000 in
theorem list_in (n : Nat) (hn : 8 ≤ n) (v : Value) (s : List Wd) (w : World) (hs : SetAt w v s) (hok : ∀ x ∈ s, WdOk x) (hmay : MayW s) (ht : Tab w) :
    CallsIn Fence.wide n Tryd.prog 17 #[v] w fun e w' => ∃ u m, e = .returned (.tuple #[u, .int .i64 0]) ∧ w'.ownsRow w.heap.size 3 1 u m (intVals (numbers s)) ∧ Below w.heap.size w w' := by
  have h1 : 1 ≤ n := by omega
  have HV : Hid (∃ a k c, v = .slice a k c) := by obtain ⟨a, c, rfl, _⟩ := hs; exact ⟨a, _, c, rfl⟩
  obtain ⟨i0, hi, hz0, hz1, hz2⟩ := info_parts info_int
  have HSZ := size_calls v s w hs hok
  have hlen := may_length hmay
  have hnl := numbers_length s
  rw [chk_yes hmay, show sizeI s = ((numbers s).length : Int) from if_pos hmay] at HSZ
  have HSZ := hid HSZ
  have HSTOPS := hid (fun Bs wx hb hc => nums_stops (n - 1) (by omega) Bs v s w wx hs hmay ht hb hc)
  have hmk : ∀ wx : World, (Instr.makeSlice 27 (.int .i64 0) (.int .i64 ((numbers s).length : Int))).run Tryd.prog wx = .ok (.slice (some ⟨wx.heap.size, 0, none⟩) 0 (numbers s).length) (wx.alloc (.cells (madeCells (Value.int .i64 0).cells (numbers s).length) 3)) := by
    intro wx
    have := run_make (P := Tryd.prog) wx 27 3 i0 (.int .i64 0) Tryd.underlying27 hi hz0 .i64 .i64 0 (numbers s).length (by omega) (by omega) (by rw [hz2]; omega) (by omega)
    rw [hz1, Int.toNat_natCast, Nat.mul_one] at this
    exact this
  have HNL : Hid ((numbers s).length ≤ 1048576) := by show _ ≤ _; omega
  clear hs hok hmay ht hnl hlen
  refine callsIn_of_wp_marks Tryd.func17 rfl trivial ?_ rfl
  simp only [Tryd.ntmps17, List.size_toArray, List.length_cons, List.length_nil, Nat.reduceAdd, Nat.reduceSub, Array.replicate_succ, Array.replicate_zero, List.push_toArray, List.append_toArray, List.nil_append, List.cons_append]
  gi_wp2_with (first
    | (refine ⟨trivial, ?_⟩; gi_at_call 13; refine (callsIn_wide.2 HSZ.out).mono ?_; rintro e w1 ⟨rfl, hb1⟩)
    | (refine ⟨trivial, ?_⟩; gi_at_call 31; refine (seq_in _ _ HV.out _).mono ?_; rintro e w' ⟨rfl, rfl⟩))
  have hsz1 : w.heap.size ≤ w1.heap.size := hb1.size
  have HMC : Hid ((madeCells #[Value.int .i64 0] (numbers s).length).size = (numbers s).length * 1) := by show _ = _; rw [size_madeCells, Nat.mul_one]
  generalize madeCells #[Value.int .i64 0] (numbers s).length = mc at *
  have hB0 : Below w.heap.size w (((w1.alloc (.cells mc 3)).alloc (.cells #[.slice (some ⟨w1.heap.size, 0, none⟩) 0 (numbers s).length] 27)).alloc (.cells #[v] 23)) :=
    ((hb1.alloc hsz1 _).alloc (by simp; omega) _).alloc (by simp; omega) _
  have bL := Boxed.new (w1.alloc (.cells mc 3)) 27 (.slice (some ⟨w1.heap.size, 0, none⟩) 0 (numbers s).length)
  have bS := Boxed.new ((w1.alloc (.cells mc 3)).alloc (.cells #[.slice (some ⟨w1.heap.size, 0, none⟩) 0 (numbers s).length] 27)) 23 v
  rw [World.size_alloc] at bL
  rw [World.size_alloc, World.size_alloc] at bS
  have hmc : mc.size = (numbers s).length * 1 := HMC.out
  have hrow : (((w1.alloc (.cells mc 3)).alloc (.cells #[.slice (some ⟨w1.heap.size, 0, none⟩) 0 (numbers s).length] 27)).alloc (.cells #[v] 23)).ownsRow w.heap.size 3 1 (.slice (some ⟨w1.heap.size, 0, none⟩) 0 (numbers s).length) 0 [] :=
    ((World.ownsRow_made w1 mc (numbers s).length hsz1 (by have := HNL.out; unfold maxLen; omega) hmc).alloc _).alloc _
  have hstops := HSTOPS.out (w1.heap.size + 1 + 1) _ hB0 bS.cell
  refine wpIn_rangeFunc_ownG rfl h1 (gf := 40) (lb := #[.pointer (some ⟨w1.heap.size + 1 + 1, 0, none⟩)]) rfl trivial (enters_of Tryd.func40 (by kernel_rfl) rfl)
    hstops (fun {_ _ _} h k => keep_trans h k) (keep_b (by simp; omega)) (Below.refl _ _) (fun _ => rfl)
    (fun pre W => (∃ u, Boxed W (w1.heap.size + 1) 27 u ∧ W.ownsRow w.heap.size 3 1 u pre.length (intVals pre) ∧ True) ∧ Below w.heap.size w W)
    (fun _ _ _ => False)
    (OwnFrom.and (Own.from (holdsRow_own w.heap.size (w1.heap.size + 1) 27 3 1 (fun pre : List Int => pre.length) (fun pre => intVals pre) (fun _ _ => True)) _) (ownFrom_below (Nat.le_refl _) (by simp; omega)))
    (fun _ _ _ _ _ hs _ _ => hs)
    ⟨⟨_, bL.alloc _, hrow, trivial⟩, hB0⟩
    (fun x => { tmps := #[v, undef, .slice none 0 0, .int .i64 0, .int .i64 ((numbers s).length : Int), .int .i64 0, .pointer (some ⟨w1.heap.size + 1, 0, none⟩), .int .i64 x, .tuple #[.int .i64 ((numbers s).length : Int), .int .i64 0], v, .tuple #[.int .i64 ((numbers s).length : Int), .int .i64 0], .int .i64 ((numbers s).length : Int), .int .i64 0, .int .i64 0, .bool false, undef, .int .i64 ((numbers s).length : Int), .slice (some ⟨w1.heap.size, 0, none⟩) 0 (numbers s).length, v, .func (.func 40) #[] #[.pointer (some ⟨w1.heap.size + 1 + 1, 0, none⟩)], .int .i64 x, undef, undef, undef, undef, undef], defers := [] }) ?assign ?body ?done ?stop
  case assign =>
    intro l x W K hK
    gi_wp2
    exact hK
  case body =>
    rintro l pre x W ⟨⟨u, hv, hown, _⟩, hB⟩ hlt
    have hc := hv.cell
    have hpl : pre.length ≤ 1048576 := by have := HNL.out; omega
    gi_wp2_with (gi_at_builtin; refine wpListIn_append_own _ rfl _ _ 27 rfl w.heap.size 3 i0 (.int .i64 0) 1 8 Tryd.underlying27 hi hz0 hz1 hz2 rfl (by decide) _ _ _ rfl (hown.alloc _) ⟨W.heap.size, 0, none⟩ 1 1 [.int .i64 x] rfl rfl (cell_one_new _ _ _) (by simp [Value.oneCell']) (by unfold maxLen; omega) (by omega) (by have := hB.size; simp; omega) ?_; intro v' w2 hown' hgrow _; obtain ⟨g', cap', rfl⟩ := ownsRow_succ hown'; obtain ⟨hv1, hv2, hr2, hk2, hb2⟩ := hv.appended (by decide) hown hB.size (by omega) hown' hgrow; have hc1 := hv1.cell; have hf1 := hv1.frozen)
    exact ⟨hk2.from _, keep_app hb2 hv hown hgrow, ⟨_, hv2, by simpa [intVals] using hr2, trivial⟩, hB.trans hb2⟩
  case done =>
    rintro D ys W hD rfl ⟨⟨u, hv, hown, _⟩, hB⟩ hK
    have hc := hv.cell
    gi_wp2
    refine ⟨by simp, .inl ⟨_, _, rfl, run_takeDeferred hK, ?_⟩⟩
    refine ⟨.tuple #[u, .int .i64 0], ?_, u, _, rfl, ownsRow_putObj hown _ hK rfl, hB.trans (belowK_b (w := w) (Nat.le_refl _) W D _ _ (by simp at hD; omega) hK rfl rfl)⟩
    simp [results, Tryd.f17, go_sem]
  case stop =>
    rintro D c pre W _ _ h _
    exact h.elim

set_option maxHeartbeats 1000000 in
theorem list_bad (n : Nat) (hn : 8 ≤ n) (v : Value) (s : List Wd) (w : World) (hs : SetAt w v s) (hok : ∀ x ∈ s, WdOk x) (hmay : ¬ MayW s) :
    CallsIn Fence.wide n Tryd.prog 17 #[v] w fun e w' => ∃ u m, e = .returned (.tuple #[u, .int .i64 8]) ∧ w'.ownsRow w.heap.size 3 1 u m (intVals []) ∧ Below w.heap.size w w' := by
  have h1 : 1 ≤ n := by omega
  have HSZ := size_calls v s w hs hok
  rw [chk_no hmay, show sizeI s = 0 from if_neg hmay] at HSZ
  have HSZ := hid HSZ
  clear hs hok hmay
  refine callsIn_of_wp_marks Tryd.func17 rfl trivial ?_ rfl
  simp only [Tryd.ntmps17, List.size_toArray, List.length_cons, List.length_nil, Nat.reduceAdd, Nat.reduceSub, Array.replicate_succ, Array.replicate_zero, List.push_toArray, List.append_toArray, List.nil_append, List.cons_append]
  gi_wp2_with (refine ⟨trivial, ?_⟩; gi_at_call 13; refine (callsIn_wide.2 HSZ.out).mono ?_; rintro e w1 ⟨rfl, hb1⟩)
  refine ⟨.tuple #[.slice none 0 0, .int .i64 8], ?_, .slice none 0 0, 0, rfl, World.ownsRow_nil _ _ _ _, hb1⟩
  simp [results, Tryd.f17, go_sem]

/-- a list, and an error -/
def OwnIR2 (l : List Int) (er : Int) (w : World) (e : Ending) (w' : World) : Prop := ∃ u m, e = .returned (.tuple #[u, .int .i64 er]) ∧ w'.ownsRow w.heap.size 3 1 u m (intVals l) ∧ Below w.heap.size w w'
def listS (s : List Wd) : List Int := if MayW s then numbers s else []
theorem list_calls (v : Value) (s : List Wd) (w : World) (hs : SetAt w v s) (hok : ∀ x ∈ s, WdOk x) (ht : Tab w) :
    Calls Tryd.prog 17 #[v] w (OwnIR2 (listS s) (chk s) w) := by
  by_cases hm : MayW s
  · rw [show listS s = numbers s from if_pos hm, chk_yes hm]
    exact callsIn_wide.1 (list_in 8 (Nat.le_refl _) v s w hs hok hm ht)
  · rw [show listS s = [] from if_neg hm, chk_no hm]
    exact callsIn_wide.1 (list_bad 8 (Nat.le_refl _) v s w hs hok hm)
end Go.Proofs.YtecfjjpdlohmnaaDoor.BitList
