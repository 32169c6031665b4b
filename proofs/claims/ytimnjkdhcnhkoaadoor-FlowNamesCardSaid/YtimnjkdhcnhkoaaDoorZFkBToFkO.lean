/- Walks over slices.Backward and its closure: a range over a function. A walk over flow.Order. -/
import Derived.Test.YtimnjkdhcnhkoaaDoorZFkH
import Derived.RangeFuncNested
import Derived.RangeFuncBound
import Derived.RangeFuncCalls
import Derived.RangeFuncLeaves
import Derived.RangeFuncBox
import Derived.Shelf.Abstract
import Derived.Shelf.RegionOpen
import Derived.WalkKit
import Derived.OwnWalkIn
import Derived.TacticsInMore
import Derived.LoopNIn
import Derived.LoopIn
import Derived.Sort.LoopGhostIn
import Derived.Sort.CutIn
import Derived.Stop.RegionWithIn
import Derived.IntWalk
import Derived.Maps.AppendAt
namespace Go.Proofs.YtimnjkdhcnhkoaaDoor.FkB
open Go.RowKit Go.Lib Go.Shelf SetP IntO TyM TyP TyB ShM ShP ShB Aft Fresh FwQ FwR FwO FkS FkH
attribute [local go_sem] Oper.semAt_some

/-- what a round keeps: the old blocks, but one -/
def KpB (bl n0 : Nat) (W W' : World) : Prop := W.heap.size ≤ W'.heap.size ∧ ∀ j, j < n0 → j ≠ bl → W'.heap[j]? = W.heap[j]?
theorem KpB.refl (bl n0 : Nat) (W : World) : KpB bl n0 W W := ⟨Nat.le_refl _, fun _ _ _ => rfl⟩
theorem KpB.trans {bl n0 : Nat} {a b c : World} (h : KpB bl n0 a b) (k : KpB bl n0 b c) : KpB bl n0 a c := ⟨Nat.le_trans h.1 k.1, fun j hj hn => (k.2 j hj hn).trans (h.2 j hj hn)⟩
theorem KpB.cell {bl n0 b o : Nat} {W W' : World} (h : KpB bl n0 W W') (hb : b < n0) (hne : b ≠ bl) : W'.cell? ⟨b, o, none⟩ = W.cell? ⟨b, o, none⟩ := by
  unfold World.cell?
  rw [h.2 b hb hne]
/-- indices and elements, from behind -/
def revP (l : List Int) : List (Nat × Int) := ((List.range l.length).map fun i => (i, l.getD i 0)).reverse
theorem revP_length (l : List Int) : (revP l).length = l.length := by simp [revP]
/-- those behind the first g -/
def dn (l : List Int) (g : Nat) : List (Nat × Int) := (revP l).take (l.length - g)
theorem dn_all (l : List Int) : dn l 0 = revP l := by unfold dn; rw [Nat.sub_zero, ← revP_length, List.take_length]
theorem dn_none (l : List Int) : dn l l.length = [] := by unfold dn; rw [Nat.sub_self]; rfl
theorem dn_succ {l : List Int} {m : Nat} (h : m < l.length) : dn l m = dn l (m + 1) ++ [(m, l[m])] := by
  unfold dn
  have h1 : l.length - m = (l.length - (m + 1)) + 1 := by omega
  rw [h1, List.take_succ_eq_append_getElem (by rw [revP_length]; omega)]
  congr 2
  unfold revP
  rw [List.getElem_reverse, List.getElem_map, List.getElem_range]
  simp only [List.length_map, List.length_range]
  have h2 : l.length - 1 - (l.length - (m + 1)) = m := by omega
  rw [h2, List.getD_eq_getElem?_getD, List.getElem?_eq_getElem h]
  rfl
theorem dn_pre (l : List Int) (g : Nat) : dn l g <+: revP l := List.take_prefix _ _
theorem dn_len {l : List Int} {g : Nat} (h : g < l.length) : (dn l (g + 1)).length < (revP l).length := by
  unfold dn
  rw [List.length_take, revP_length]
  omega
theorem revP_snd (l : List Int) : (revP l).map (·.2) = l.reverse := by
  unfold revP
  rw [List.map_reverse, List.map_map]
  congr 1
  apply List.ext_getElem
  · simp
  · intro i h1 h2
    simp [List.getElem?_eq_getElem h2]

/-- what has come of a round -/
def After (J Jx : List (Nat × Int) → World → Prop) (bl n0 : Nat) (cur : List (Nat × Int)) (W : World) (b : Bool) (W' : World) : Prop :=
  if b = true then J cur W' ∧ KpB bl n0 W W' else Jx cur W'

set_option maxRecDepth 100000 in
set_option maxHeartbeats 4000000 in
theorem back_in (n : Nat) (hn : 4 ≤ n) (lab Bs bl n0 : Nat) (v : Value) (l : List Int) (w0 : World) (hl : IntsAt w0 v l) (hlen : l.length ≤ 1000) (hap : ∀ g off k c, v = .slice (some ⟨g, off, none⟩) k c → g < n0 ∧ g ≠ bl) (J Jx : List (Nat × Int) → World → Prop) (W : World) (hb : KpB bl n0 w0 W) (_ : AbidesFrom W.heap.size J)
    (hY : ∀ pre x W, J pre W → pre.length < (revP l).length → YieldAt Fence.wide (n - 1) Tryd.prog lab #[.int .i64 (x.1 : Int), .int .i64 x.2] W fun e W' =>
      (e = .returned (.bool true) ∧ J (pre ++ [x]) W' ∧ KpB bl n0 W W') ∨ (e = .returned (.bool false) ∧ Jx (pre ++ [x]) W'))
    (hBs : w0.cell? ⟨Bs, 0, none⟩ = some v) (hB1 : Bs < n0) (hB2 : Bs ≠ bl) (h0 : J [] W) :
    CallsIn Fence.wide n Tryd.prog 45 #[.func (.yield lab) #[] #[], .pointer (some ⟨Bs, 0, none⟩)] W fun e W' => (∃ v, e = .returned v) ∧
      ((∃ ys, ys = revP l ∧ J ys W') ∨ (∃ pre, pre <+: revP l ∧ Jx pre W')) := by
  obtain ⟨ao, cap, rfl, _⟩ := ints_slice hl
  have HCL : Hid (∀ k (hk : k < l.length) (W' : World), KpB bl n0 w0 W' → ∃ b off, ao = some ⟨b, off, none⟩ ∧ W'.cell? ⟨b, off + k, none⟩ = some (.int .i64 l[k])) := by
    intro k hk W' hW
    obtain ⟨b, off, rfl, _, hc⟩ := TyP.ints_at hl k hk
    obtain ⟨h1, h2⟩ := hap b off _ _ rfl
    exact ⟨b, off, rfl, (hW.cell h1 h2).trans hc⟩
  have HBS := hid (fun (W' : World) (hW : KpB bl n0 w0 W') => (hW.cell (o := 0) hB1 hB2).trans hBs)
  have HY : Hid (∀ pre x W, J pre W → pre.length < (revP l).length → YieldAt Fence.wide (n - 1) Tryd.prog lab #[.int .i64 (x.1 : Int), .int .i64 x.2] W fun e W' => ∃ b, e = .returned (.bool b) ∧ After J Jx bl n0 (pre ++ [x]) W b W') := by
    intro pre x W h1 h2
    obtain ⟨fn, tmps, assign, body, hy, hR⟩ := hY pre x W h1 h2
    refine ⟨fn, tmps, assign, body, hy, hR.mono ?_⟩
    rintro e W' (⟨rfl, h3, h4⟩ | ⟨rfl, h3⟩)
    · exact ⟨true, rfl, h3, h4⟩
    · exact ⟨false, rfl, h3⟩
  have HLN := hid hlen
  have c0 := HBS.out W hb
  have h00 : J (dn l l.length) W := by rw [dn_none]; exact h0
  have H00 := hid h00
  clear hY hl hlen hap hBs hB1 hB2 h0 h00
  refine callsIn_of_wp Tryd.func45 rfl trivial ?_ rfl
  simp only [Tryd.ntmps45, List.size_toArray, List.length_cons, List.length_nil, Nat.reduceAdd, Nat.reduceSub, Array.replicate_succ, Array.replicate_zero, List.push_toArray, List.append_toArray, List.nil_append, List.cons_append]
  have hl0 : l.length ≤ 1000 := HLN.out
  gi_wp2
  gi_loopg [3] l.length (fun g i wr => g ≤ l.length ∧ i = .int .i64 ((g : Int) - 1) ∧ J (dn l g) wr ∧ KpB bl n0 w0 wr)
  case atStart => exact ⟨Nat.le_refl _, rfl, H00.out, hb⟩
  case round =>
    obtain ⟨hg, rfl, hj, hk⟩ := hrel
    clear c0 H00
    by_cases hlt : 0 < gk
    · obtain ⟨m, rfl⟩ : ∃ m, gk = m + 1 := ⟨gk - 1, by omega⟩
      have e1 : (((m + 1 : Nat) : Int) - 1) = (m : Int) := by omega
      rw [e1]
      have hml : m < l.length := hg
      obtain ⟨b, off, rfl, c1⟩ := HCL.out m hml wr hk
      have c0 := HBS.out wr hk
      have hmi : (m : Int) < (l.length : Int) := by omega
      obtain ⟨fn, tmps, assign, body, hy, hR⟩ := HY.out (dn l (m + 1)) (m, l[m]) wr hj (dn_len hml)
      have HR := hid hR
      have HD : Hid (dn l m = dn l (m + 1) ++ [(m, l[m])]) := dn_succ hml
      have HPR : Hid (dn l (m + 1) ++ [(m, l[m])] <+: revP l) := by
        show _ <+: _
        rw [← dn_succ hml]
        exact dn_pre l m
      have HM := hid hml
      have HK := hid hk
      have hn1 : 1 ≤ n := by omega
      have hnot : ∀ (x : Bool) (w : World), (Op.unary .not (.bool x)).run Tryd.prog w = .ok (.bool (!x)) w := fun _ _ => rfl
      rw [← HD.out] at HR HPR
      clear e1 hg hj hlt hk hR HD
      generalize l[m] = x at *
      gi_wp2
      refine HR.out.mono ?_
      rintro e W' ⟨bo, rfl, haf⟩
      cases bo
      · have HX : Hid (Jx (dn l m) W') := haf
        clear haf
        gi_wp2
        refine bodyPost_ret (results_none rfl _ _ _) rfl ?_
        exact ⟨⟨_, rfl⟩, .inr ⟨_, HPR.out, HX.out⟩⟩
      · obtain ⟨hja, hka⟩ : J (dn l m) W' ∧ KpB bl n0 wr W' := haf
        have HJA := hid hja
        have HKA := hid (HK.out.trans hka)
        clear hja hka c0 c1 hy HR
        gi_wp2
        gi_roundg m
        case measure => omega
        case rel => exact ⟨by have := HM.out; omega, rfl, HJA.out, HKA.out⟩
    · obtain rfl : gk = 0 := by omega
      rw [dn_all] at hj
      have HJ := hid hj
      clear hj hk
      gi_wp2
      go_end0
      exact ⟨⟨_, rfl⟩, .inl ⟨_, rfl, HJ.out⟩⟩
end Go.Proofs.YtimnjkdhcnhkoaaDoor.FkB
namespace Go.Proofs.YtimnjkdhcnhkoaaDoor.FkO
open Go.RowKit Go.Lib Go.Shelf SetP IntO TyM TyP TyB ShM ShP ShA ShB ShE ShH ShI ShJ Aft Fresh FwM FwC FwP FwQ FwR FwO FwK FkP FkN FkS FkW FkH FkB
attribute [local go_sem] Oper.semAt_some

theorem fn_in (n : Nat) (a : Option Addr) (k c : Nat) (w : World) :
    CallsIn Fence.wide n Tryd.prog 29 #[.slice a k c] w fun e w' => e = .returned (.func (.func 45) #[] #[.pointer (some ⟨w.heap.size, 0, none⟩)]) ∧ w.alloc (.cells #[.slice a k c] 35) = w' := by
  refine callsIn_of_wp Tryd.func29 rfl trivial ?_ rfl
  simp only [Tryd.ntmps29, List.size_toArray, List.length_cons, List.length_nil, Nat.reduceAdd, Nat.reduceSub, Array.replicate_succ, Array.replicate_zero, List.push_toArray, List.append_toArray, List.nil_append, List.cons_append]
  gi_wp2
  go_ret
  exact ⟨rfl, rfl⟩

theorem back_stops (n : Nat) (hn : 4 ≤ n) (Bs bl : Nat) (v : Value) (l : List Int) (w : World) (hl : IntsAt w v l) (hlen : l.length ≤ 1000) (hap : ∀ g off k c, v = .slice (some ⟨g, off, none⟩) k c → g < w.heap.size ∧ g ≠ bl)
    (hBs : w.cell? ⟨Bs, 0, none⟩ = some v) (hB2 : Bs ≠ bl) :
    SeqStopsK Fence.wide n Tryd.prog 45 #[.pointer (some ⟨Bs, 0, none⟩)] (fun x : Nat × Int => #[Value.int .i64 (x.1 : Int), Value.int .i64 x.2]) (KpB bl w.heap.size) (fun ys => ys = revP l) (fun pre => pre <+: revP l) (revP l).length w :=
  fun lab J Jx W hW hJ _ hY h0 => back_in n hn lab Bs bl w.heap.size v l w hl hlen hap J Jx W ⟨hW.size, fun j hj _ => hW.block j hj⟩ hJ hY hBs (World.block_lt_of_cell? w _ hBs) hB2 h0

theorem kp_b {bl n0 : Nat} (W : World) (l : Nat) (o' : Obj) (hl : n0 ≤ l) : KpB bl n0 W (W.putObj l o') := by
  refine ⟨by simp, fun j hj _ => World.putObj_heap_other fun e => ?_⟩
  omega

theorem ownFrom_size {β : Type} (B n0 : Nat) : OwnFrom B (fun (_ : β) W => n0 ≤ W.heap.size) := fun _ _ _ _ hs hg _ => Nat.le_trans hs hg.size
/-- an append in a round: the box, and the old blocks -/
theorem kp_app {W w2 : World} {bl n0 n : Nat} {v v' u : Value} {xs : List Value} (hn0 : n0 ≤ W.heap.size) (hrow : W.ownsRow n0 3 1 v n xs) (hgrow : (W.alloc (.cells #[u] 3)).grownBy w2 v.ownBlock) : KpB bl n0 W (w2.setCell ⟨bl, 0, none⟩ v') := by
  have hs : W.heap.size + 1 ≤ w2.heap.size := by have := hgrow.size; simpa using this
  refine ⟨by rw [TyD.size_set]; omega, fun j hj hne => ?_⟩
  rw [Below.heap_setCell w2 ⟨bl, 0, none⟩ v' j hne, hgrow.block j (by simp; omega) (fun e => ?_), Below.heap_alloc _ _ _ (by omega)]
  have := (hrow.lt j e.symm).1
  omega
theorem row_set {w2 : World} {bl n0 m : Nat} {v v' : Value} {ys : List Value} (hv : Boxed w2 bl 35 v) (ho : w2.ownsRow n0 3 1 v' m ys) : (w2.setCell ⟨bl, 0, none⟩ v').ownsRow n0 3 1 v' m ys :=
  ho.kept (grownBy_setCell' w2 bl v') (.inr (hv.not_row (by decide) ho).symm)

set_option maxRecDepth 100000 in
set_option maxHeartbeats 4000000 in
theorem order_yes (n : Nat) (hn : 8 ≤ n) (p : Px) (f : Int) (v : Value) (w : World) (hp : PrAt w v p) (htab : Tab w) (hs : Small p) (hok : POk p) (hz : findP p f = 0) :
    CallsIn Fence.wide n Tryd.prog 12 #[v, .int .i64 f] w (LstN (ints (orderedL (blsP p f))) 0 w) := by
  have h1 : 1 ≤ n := by omega
  have hp0 := hp
  obtain ⟨vt, vf, rfl, ht, hf⟩ := hp
  have hbW := alloc_below w (.cells #[vt, vf] 25)
  have hpW := hp0.below hbW
  have HR := hid (find_yes p f 0 _ _ hpW (htab.on hbW) hs hok (ask_first.trans hz))
  obtain ⟨ta, tc, rfl⟩ := ht.slice
  obtain ⟨fa, fc, rfl, _⟩ := hf.slice
  obtain ⟨hlow, hl0, hl16⟩ := low_fn hok hz
  have HKD := hid (kinds_fn hok hz)
  have hc0 : ∀ c ∈ [0], c < (blsP p f).length := fun c hc => by rw [List.mem_singleton.1 hc]; exact hl0
  have HBH := hid (fun (vb u : Value) (w2 : World) (h1 : BlksAt w2 vb (blsP p f)) (h2 : IntsAt w2 u (ints [0])) => behind_calls (blsP p f) [0] vb u w2 hlow HKD.out (by omega) h1 hc0 (by simp) h2)
  have HBL := hid (Nat.le_trans (behind_len hlow hc0) hl16)
  have HO : Hid (ints (orderedL (blsP p f)) = (ints (behindL (blsP p f) [0])).reverse) := by
    show _ = _
    rw [← behind_order, ints, ints, List.map_reverse]
  have HBW := hid hbW
  clear ht hf hpW hbW hp0 hs hok htab hlow hl0 hl16 HKD hc0 hz
  generalize blsP p f = bls at *
  generalize p.types.length = n1 at *
  generalize p.funcs.length = n2 at *
  refine callsIn_of_wp_marks Tryd.func12 rfl trivial ?_ rfl
  simp only [Tryd.ntmps12, List.size_toArray, List.length_cons, List.length_nil, Nat.reduceAdd, Nat.reduceSub, Array.replicate_succ, Array.replicate_zero, List.push_toArray, List.append_toArray, List.nil_append, List.cons_append]
  gi_wp2_with fail
  refine ⟨trivial, ?_⟩
  refine (callsIn_wide.2 HR.out).mono ?_
  rintro e w1 ⟨ao, c, rfl, hbl1, hb1⟩
  have HB1 := hid (HBW.out.trans (hb1.mono HBW.out.size))
  have HW1 := hid HB1.out.size
  have hs1 := hb1.size
  have hb2 : Below w1.heap.size w1 ((w1.alloc (.cells #[.slice none 0 0] 35)).alloc (.cells #[.int .i64 0] 3)) := ((Below.refl _ _).alloc (Nat.le_refl _) _).alloc (by simp) _
  have HC := hid (HBH.out (.slice ao bls.length c) (.slice (some ⟨w1.heap.size + 1, 0, none⟩) 1 1) _ (hbl1.below blkStays hb2) (ints_lit_at (w1.alloc (.cells #[.slice none 0 0] 35)) (ints [0]) (w1.heap.size + 1) 1 #[.int .i64 0] (by simp) rfl rfl (by simp [ints])))
  have HB2 := hid (HB1.out.trans (hb2.mono HB1.out.size))
  have hbx := Boxed.new w1 35 (.slice none 0 0)
  have HBX := hid (hbx.alloc (.cells #[.int .i64 0] 3))
  clear HR hbl1 hb1 hb2 HBH hbx HBW
  generalize behindL bls [0] = bh at *
  generalize bls.length = nb at *
  gi_wp2_with fail
  refine ⟨trivial, ?_⟩
  refine (callsIn_wide.2 HC.out).mono ?_
  rintro e w3 ⟨u3, rfl, hu3, hb3⟩
  obtain ⟨ua, uc, rfl⟩ := own_slice hu3
  have HB3 := hid (HB2.out.trans (hb3.mono HB2.out.size))
  have HU := hid hu3
  have HS3 : Hid (w1.heap.size + 1 + 1 ≤ w3.heap.size) := by
    have := hb3.size
    simp only [World.size_alloc] at this
    exact this
  have HX3 : Hid (Boxed w3 w1.heap.size 35 (.slice none 0 0)) := (hb3.block _ HBX.out.lt).trans HBX.out
  clear HC hu3 hb3 HBX HB2 HB1
  gi_wp2_with fail
  refine ⟨trivial, ?_⟩
  refine (fn_in _ _ _ _ _).mono ?_
  rintro e w4 ⟨rfl, hw4⟩
  subst hw4
  have hsz0 := HS3.out
  have hL4 : IntsAt (w3.alloc (.cells #[.slice ua bh.length uc] 35)) (.slice ua bh.length uc) (ints bh) := by
    have := (intsAt_of_owns HU.out (by rw [ints_length]; have := HBL.out; omega)).below (alloc_below w3 (.cells #[.slice ua bh.length uc] 35))
    exact this
  have hap : ∀ g off k c, Value.slice ua bh.length uc = .slice (some ⟨g, off, none⟩) k c → g < (w3.alloc (.cells #[.slice ua bh.length uc] 35)).heap.size ∧ g ≠ w1.heap.size := by
    intro g off k c e
    have h2 := HU.out.lt g (by rw [e]; rfl)
    simp only [World.size_alloc] at h2 ⊢
    omega
  have hstops := back_stops (n - 1) (by omega) w3.heap.size w1.heap.size _ (ints bh) _ hL4 (by rw [ints_length]; have := HBL.out; omega) hap (Boxed.new w3 35 (.slice ua bh.length uc)).cell (by omega)
  have hX4 := HX3.out.alloc (.cells #[.slice ua bh.length uc] 35)
  have hB4 := HB3.out.alloc HB3.out.size (.cells #[.slice ua bh.length uc] 35)
  have hsz4 : w.heap.size ≤ (w3.alloc (.cells #[.slice ua bh.length uc] 35)).heap.size := hB4.size
  have HSZ4 := hid hsz4
  have hbl : w.heap.size ≤ w1.heap.size := HW1.out
  clear HX3 HB3 HU hsz0 hap hL4
  generalize w3.alloc (.cells #[.slice ua bh.length uc] 35) = W4 at *
  obtain ⟨i0, hi, hz0, hz1, hz2⟩ := info_parts info_int
  gi_wp2
  refine wpIn_rangeFunc_ownG rfl h1 (gf := 45) (lb := #[.pointer (some ⟨w3.heap.size, 0, none⟩)]) rfl trivial (enters_of Tryd.func45 (by kernel_rfl) rfl)
    hstops (fun {_ _ _} h k => KpB.trans h k) (fun W l o o' hl _ _ _ => kp_b W l o' hl) (Below.refl _ _) (fun _ => rfl)
    (fun pre W => (∃ u, Boxed W w1.heap.size 35 u ∧ W.ownsRow W4.heap.size 3 1 u pre.length (intVals (pre.map (·.2))) ∧ True) ∧ Below w.heap.size w W ∧ W4.heap.size ≤ W.heap.size)
    (fun _ _ _ => False)
    (OwnFrom.and (Own.from (holdsRow_own W4.heap.size w1.heap.size 35 3 1 (fun pre : List (Nat × Int) => pre.length) (fun pre => intVals (pre.map (·.2))) (fun _ _ => True)) _) (OwnFrom.and (ownFrom_below (Nat.le_refl _) hsz4) (ownFrom_size _ _)))
    (fun _ _ _ _ _ hs _ _ => hs)
    ⟨⟨_, hX4, World.ownsRow_nil _ _ _ _, trivial⟩, hB4, Nat.le_refl _⟩
    (fun x => { tmps := #[.agg #[.slice ta n1 tc, .slice fa n2 fc], .int .i64 f, .pointer (some ⟨w.heap.size, 0, none⟩), undef, .slice none 0 0, .int .i64 0, .slice ao nb c, .int .i64 0, .pointer (some ⟨w1.heap.size, 0, none⟩), undef, .int .i64 x.2, .tuple #[.slice ao nb c, .int .i64 0], .agg #[.slice ta n1 tc, .slice fa n2 fc], .int .i64 f, .tuple #[.slice ao nb c, .int .i64 0], .slice ao nb c, .int .i64 0, .int .i64 0, .bool false, undef, .slice ao nb c, .slice (some ⟨w1.heap.size + 1, 0, none⟩) 1 1, .slice ua bh.length uc, .func (.func 45) #[] #[.pointer (some ⟨w3.heap.size, 0, none⟩)], .int .i64 (x.1 : Int), .int .i64 x.2, undef, undef, undef, undef, undef], defers := [] }) ?assign ?body ?done ?stop
  case assign =>
    intro l x W K hK
    gi_wp2
    exact hK
  case body =>
    rintro l pre x W ⟨⟨u, hv, hown, _⟩, hB, hS⟩ hlt
    have hc := hv.cell
    have hpl : pre.length ≤ 1048576 := by rw [revP_length, ints_length] at hlt; have := HBL.out; omega
    gi_wp2_with (gi_at_builtin; refine wpListIn_append_own _ rfl _ _ 35 rfl W4.heap.size 3 i0 (.int .i64 0) 1 8 Tryd.underlying35 hi hz0 hz1 hz2 rfl (by decide) _ _ _ rfl (hown.alloc _) ⟨W.heap.size, 0, none⟩ 1 1 [.int .i64 x.2] rfl rfl (cell_one_new _ _ _) (by simp [Value.oneCell']) (by unfold maxLen; omega) (by omega) (by simp; omega) ?_; intro v' w2 hown' hgrow _; obtain ⟨g', cap', rfl⟩ := ownsRow_succ hown'; obtain ⟨hv1, hv2, _, hk2, hb2⟩ := hv.appended (by decide) (owns_base hown hsz4) hB.size hbl (owns_base hown' hsz4) hgrow; have hr2 := row_set hv1 hown'; have hkp := kp_app (v' := .slice (some ⟨g', 0, none⟩) (pre.length + 1) cap') (bl := w1.heap.size) hS hown hgrow; have hc1 := hv1.cell; have hf1 := hv1.frozen)
    exact ⟨hk2.from _, hkp, ⟨_, hv2, by simpa [intVals] using hr2, trivial⟩, hB.trans hb2, Nat.le_trans hS hkp.1⟩
  case done =>
    rintro D ys W hD rfl ⟨⟨u, hv, hown, _⟩, hB, hS⟩ hK
    have hc := hv.cell
    rw [revP_snd, ← HO.out, revP_length, ints_length] at hown
    have HOWN := hid hown
    obtain ⟨xa, xc, rfl⟩ := own_slice hown
    clear hown
    gi_wp2
    refine ⟨by simp, .inl ⟨_, _, rfl, run_takeDeferred hK, ?_⟩⟩
    have hown2 := ownsRow_putObj HOWN.out (.deferred none) hK rfl
    have hlen : (ints (orderedL bls)).length = bh.length := by rw [HO.out, List.length_reverse, ints_length]
    refine ⟨.tuple #[.slice xa bh.length xc, .int .i64 0], ?_, _, rfl, newI_base (newI_of hown2 (by rw [hlen]; have := HBL.out; omega)) HSZ4.out, hB.trans (belowK_b (w := W4) HSZ4.out W D _ _ hD hK rfl rfl)⟩
    simp [results, Tryd.f12, go_sem]
  case stop =>
    rintro D c pre W _ _ h _
    exact h.elim
set_option maxRecDepth 100000 in
set_option maxHeartbeats 4000000 in
theorem order_no (n : Nat) (hn : 8 ≤ n) (p : Px) (f : Int) (v : Value) (w : World) (hp : PrAt w v p) (htab : Tab w) (hs : Small p) (hok : POk p) (hz : findP p f ≠ 0) :
    CallsIn Fence.wide n Tryd.prog 12 #[v, .int .i64 f] w (LstN [] (findP p f) w) := by
  have h1 : 1 ≤ n := by omega
  have hp0 := hp
  obtain ⟨vt, vf, rfl, ht, hf⟩ := hp
  have hbW := alloc_below w (.cells #[vt, vf] 25)
  have HR := hid (find_no p f 0 _ _ (hp0.below hbW) (htab.on hbW) hs hok)
  rw [ask_first] at HR
  obtain ⟨ta, tc, rfl⟩ := ht.slice
  obtain ⟨fa, fc, rfl, _⟩ := hf.slice
  have e0 : (findP p f != 0) = true := by simpa using hz
  have HBW := hid hbW
  clear ht hf hbW hp0 hs hok htab hz
  generalize findP p f = fe at *
  generalize p.types.length = n1 at *
  generalize p.funcs.length = n2 at *
  refine callsIn_of_wp_marks Tryd.func12 rfl trivial ?_ rfl
  simp only [Tryd.ntmps12, List.size_toArray, List.length_cons, List.length_nil, Nat.reduceAdd, Nat.reduceSub, Array.replicate_succ, Array.replicate_zero, List.push_toArray, List.append_toArray, List.nil_append, List.cons_append]
  gi_wp2_with fail
  refine ⟨trivial, ?_⟩
  refine (callsIn_wide.2 HR.out).mono ?_
  rintro e w1 ⟨ao, m, c, rfl, hb1⟩
  have HE := hid (HBW.out.trans (hb1.mono HBW.out.size))
  clear HR hb1
  gi_wp2
  refine ⟨.tuple #[.slice none 0 0, .int .i64 fe], ?_, _, rfl, newI_none _ _, HE.out⟩
  simp [results, Tryd.f12, go_sem]

theorem order_c : OrderC := by
  intro p f v w hp htab hs hok _
  by_cases hz : findP p f = 0
  · have h := callsIn_wide.1 (order_yes 8 (Nat.le_refl _) p f v w hp htab hs hok hz)
    have e : orderA p f = ints (orderedL (blsP p f)) := by unfold orderA; rw [if_pos hz]
    rw [e, hz]
    exact h
  · have h := callsIn_wide.1 (order_no 8 (Nat.le_refl _) p f v w hp htab hs hok hz)
    have e : orderA p f = [] := by unfold orderA; rw [if_neg hz]
    rw [e]
    exact h
end Go.Proofs.YtimnjkdhcnhkoaaDoor.FkO
