/- Walk over fescuelaw03.TypesAsks. -/
import Derived.Test.YtgimdoagccpcdaaTyLA
import Derived.Test.YtgimdoagccpcdaaTyN
import Derived.Test.YtgimdoagccpcdaaTyRT
import Derived.Test.YtgimdoagccpcdaaTyRD
namespace Go.Proofs.Ytgimdoagccpcdaa.TyLK
open Go.RowKit Go.Lib Go.Shelf SetP IntO TyM TyP TyB TyC TyD TyE TyS TyF TyH TyK TyQ TyRB TyRC TyRD TyRE TyRT TyT TyW TyLA TyN

theorem own_tys {B : Nat} {v : Value} {r : List Row} {t : List Ty} {w : World} (h : OwnT B v r w) (hr : r.map Prod.fst = t) (hl : t.length ≤ 20) (hp : ∀ x ∈ t, x.parts.length ≤ 20) : TysAt w v t := by
  subst hr
  exact h.tys (by simp at hl; omega) fun x hx => by have := hp x.1 (List.mem_map.2 ⟨x, hx, rfl⟩); omega

set_option maxRecDepth 100000 in
set_option maxHeartbeats 4000000 in
theorem walk (W : World) (v : Value) (t : List Ty) (S : TysAt W v t) (_ : ∀ x ∈ t, TyOk x) (k : Int) (_ : (Lit.int .i64 k).wf = true) (n : Int) (_ : (Lit.int .i64 n).wf = true) :
    Calls Try.prog 5 #[v, .int .i64 k, .int .i64 n] W fun e W' => e = .returned (.bool true) ∧ Below W.heap.size W W' := by
  have HG := hid (great_calls v t W S)
  have HGN := hid (@great_no t)
  have HT := hid S
  obtain ⟨ao, cap, rfl⟩ := S.slice
  clear S
  cases hg : greatB t with
  | true =>
    rw [hg] at HG
    clear HGN hg HT
    generalize t.length = tl at *
    go_enter Try.func5, Try.ntmps5
    go_wp2_with fail
    refine HG.out.mono ?_
    rintro e w1 ⟨rfl, hb1⟩
    go_wp2
    go_ret
    exact ⟨rfl, hb1⟩
  | false =>
    rw [hg] at HG
    obtain ⟨hl20, hp20⟩ := HGN.out hg
    have HTW := hid (fun wx (hb : Below W.heap.size W wx) => twinR_calls _ t wx (HT.out.below hb) hl20 hp20)
    have HOT := hid (fun (B : Nat) (v : Value) (r : List Row) (w : World) (h : OwnT B v r w) hr => own_tys h hr hl20 hp20)
    have R1 := hid (fun wx (hb : Below W.heap.size W wx) => scalarR_calls t _ k wx (HT.out.below hb))
    have R2 := hid (fun wx (hb : Below W.heap.size W wx) => cellsR_calls t _ k wx (HT.out.below hb))
    have R3 := hid (fun wx (hb : Below W.heap.size W wx) => partR_calls t _ k n wx (HT.out.below hb))
    have R4 := hid (fun wx (hb : Below W.heap.size W wx) => offsetR_calls t _ k n wx (HT.out.below hb))
    have R5 := hid (fun u wx (h : TysAt wx u t) (hb : Below W.heap.size W wx) => sameR_calls u _ t t wx h (HT.out.below hb))
    rw [decide_eq_true rfl] at R5
    have P1 := hid (fun u wx (h : TysAt wx u t) => isScalar_calls t u k wx h)
    have P2 := hid (fun u wx (h : TysAt wx u t) => cellsOwn_calls t u k wx h)
    have P3 := hid (fun u wx (h : TysAt wx u t) => part_calls t u k n wx h)
    have P4 := hid (fun u wx (h : TysAt wx u t) => offset_calls t u k n wx h)
    have hll := list_len t k
    clear HGN hg hl20 hp20
    generalize isT t k = b at *
    generalize askT t k = er at *
    generalize partT t k n = pt at *
    generalize partE t k n = pe at *
    generalize offT t k n = ot at *
    generalize listT t k = l at *
    generalize t.length = tl at *
    go_enter Try.func5, Try.ntmps5
    go_wp2_with fail
    refine HG.out.mono ?_
    rintro e w1 ⟨rfl, hb1⟩
    have HTW1 := hid (HTW.out w1 hb1)
    go_wp2_with fail
    refine HTW1.out.mono ?_
    rintro e w2 ⟨own, r, rfl, hr, ho, hb2⟩
    have hbe := hb1.trans (hb2.mono hb1.size)
    have hown := HOT.out _ own r w2 ho hr
    have HOW := hid hown
    obtain ⟨oo, oc, rfl⟩ := hown.slice
    have HC := hid (P1.out _ w2 hown)
    clear hb1 hb2 ho hr HTW HTW1 HOT HG hown P1
    generalize t.length = ol at *
    -- Scalar, both
    go_wp2_with fail
    refine HC.out.mono ?_
    rintro e w3 ⟨rfl, hb3⟩
    have hbe3 := hbe.trans (hb3.mono hbe.size)
    have HO3 := hid (HOW.out.below hb3)
    have HC3 := hid (R1.out w3 hbe3)
    clear hb3 hbe HOW HC
    go_wp2_with fail
    refine HC3.out.mono ?_
    rintro e w4 ⟨rfl, hb4⟩
    have hbe4 := hbe3.trans (hb4.mono hbe3.size)
    have HO4 := hid (HO3.out.below hb4)
    have HC4 := hid (P2.out _ w4 HO4.out)
    clear hb4 hbe3 HO3 HC3 R1 P2
    -- Cells, both
    go_wp2_with fail
    refine HC4.out.mono ?_
    rintro e w5 ⟨a, m, rfl, ha, hb5⟩
    have HA5 := hid ha
    have hbA := hb5
    have hal : m = l.length := by have := ha.1; rw [intVals_length] at this; omega
    subst hal
    have haf : ∃ g c, a = .slice g l.length c := by
      rcases ha.2 with ⟨rfl, h0⟩ | ⟨_, _, _, rfl, _⟩
      · exact ⟨_, _, by rw [h0]⟩
      · exact ⟨_, _, rfl⟩
    obtain ⟨ga, ca, rfl⟩ := haf
    have hbe5 := hbe4.trans (hb5.mono hbe4.size)
    have HC5 := hid (R2.out w5 hbe5)
    have HO5 := hid (HO4.out.below hb5)
    have hszA : w4.heap.size ≤ w5.heap.size := hb5.size
    clear ha hb5 HC4 R2
    go_wp2_with fail
    refine HC5.out.mono ?_
    rintro e w6 ⟨c, rfl, hc, hb6⟩
    have hbe6 := hbe5.trans (hb6.mono hbe5.size)
    have hbA6 := hbA.trans (hb6.mono hszA)
    have HA6 := hid (ownsRow_below HA5.out hb6)
    have HO6 := hid (HO5.out.below hb6)
    have HB6 := hid hc
    obtain ⟨gc, cc, rfl, _⟩ := ints_slice hc
    have HC6 := hid (P3.out _ w6 HO6.out)
    clear hc hb6 hbe5 hbA hszA HA5 HO5 HC5 P3
    -- Part, both
    go_wp2_with fail
    refine HC6.out.mono ?_
    rintro e w7 ⟨rfl, hb7⟩
    have hbe7 := hbe6.trans (hb7.mono hbe6.size)
    have hbA7 := hbA6.trans (hb7.mono hbA6.size)
    have HA7 := hid (ownsRow_below HA6.out hb7)
    have HO7 := hid (HO6.out.below hb7)
    have HB7 := hid (HB6.out.below hb7)
    have HC7 := hid (R3.out w7 hbe7)
    clear hb7 hbe6 hbA6 HA6 HO6 HB6 HC6 R3
    go_wp2_with fail
    refine HC7.out.mono ?_
    rintro e w8 ⟨rfl, hb8⟩
    have hbe8 := hbe7.trans (hb8.mono hbe7.size)
    have hbA8 := hbA7.trans (hb8.mono hbA7.size)
    have HA8 := hid (ownsRow_below HA7.out hb8)
    have HO8 := hid (HO7.out.below hb8)
    have HB8 := hid (HB7.out.below hb8)
    have HC8 := hid (P4.out _ w8 HO8.out)
    clear hb8 hbe7 hbA7 HA7 HO7 HB7 HC7 P4
    -- Offset, both
    go_wp2_with fail
    refine HC8.out.mono ?_
    rintro e w9 ⟨rfl, hb9⟩
    have hbe9 := hbe8.trans (hb9.mono hbe8.size)
    have hbA9 := hbA8.trans (hb9.mono hbA8.size)
    have HA9 := hid (ownsRow_below HA8.out hb9)
    have HB9 := hid (HB8.out.below hb9)
    have HC9 := hid (R4.out w9 hbe9)
    clear hb9 hbe8 hbA8 HA8 HO8 HB8 HC8 R4
    go_wp2_with fail
    refine HC9.out.mono ?_
    rintro e w10 ⟨rfl, hb10⟩
    have hbe10 := hbe9.trans (hb10.mono hbe9.size)
    have hbA10 := hbA9.trans (hb10.mono hbA9.size)
    have HA10 := hid (ownsRow_below HA9.out hb10)
    have HB10 := hid (HB9.out.below hb10)
    have HC10 := hid (sameInts_calls _ _ l l w10 (intsAt_of_owns HA10.out (by omega)) HB10.out)
    rw [decide_eq_true rfl] at HC10
    clear hb10 hbe9 hbA9 HA9 HB9 HC9
    go_wp2_with fail
    refine HC10.out.mono ?_
    rintro e w11 ⟨rfl, hb11⟩
    have hbe11 := hbe10.trans (hb11.mono hbe10.size)
    have hbA11 := hbA10.trans (hb11.mono hbA10.size)
    have HA11 := hid (ownsRow_below HA10.out hb11)
    clear hb11 hbe10 hbA10 HA10 HB10 HC10
    have hszW : W.heap.size ≤ w4.heap.size := hbe4.size
    have HFIN := hid (fun wx (hx : Below w4.heap.size w4 wx) => R5.out _ wx (HO4.out.below hx) (hbe4.trans (hx.mono hszW)))
    have HFIB := hid (fun wx (hx : Below w4.heap.size w4 wx) => hbe4.trans (hx.mono hszW))
    clear hbe11 R5 hbe4
    by_cases h0 : 0 < l.length
    · obtain ⟨g, c2, hge, hgB, _, _, _⟩ := row_cells HA11.out (by rw [intVals_length]; exact h0)
      cases hge
      have HA12 : Hid (∃ xs, w11.ownsRow w4.heap.size 3 1 (.slice (some ⟨g, 0, none⟩) l.length ca) l.length xs) := ⟨_, HA11.out⟩
      clear HA11
      generalize l.length = ln at *
      go_wp2
      go_loopg [25] ln (fun gk i wr => ∃ j : Nat, j + gk = ln ∧ i = .int .i64 j ∧ Below w4.heap.size w4 wr ∧ ∃ xs, wr.ownsRow w4.heap.size 3 1 (.slice (some ⟨g, 0, none⟩) ln ca) ln xs)
      case atStart => exact ⟨0, by omega, rfl, hbA11, HA12.out⟩
      case round =>
        obtain ⟨j, hj, rfl, hbr, xs, hxs⟩ := hrel
        have HJ := hid hj
        by_cases hlt : j < ln
        · obtain ⟨y, hy⟩ : ∃ y, xs[j]? = some y := ⟨xs[j]'(by have := hxs.1; omega), List.getElem?_eq_getElem _⟩
          have hc := (hxs.cellAt j (by omega)).trans hy
          have hf := hxs.frozenAt j
          have HST := hid (hxs.stored j (.int .i64 (-7)))
          have HBR := hid (hbr.setCell (p := ⟨g, j, none⟩) hgB (.int .i64 (-7)))
          clear hj hy hxs
          go_wp2
          go_roundg (gk - 1)
          case measure => have := HJ.out; omega
          case rel => exact ⟨j + 1, by have := HJ.out; omega, by go_num, HBR.out, _, HST.out.1⟩
        · obtain rfl : j = ln := by omega
          have HF := hid (HFIN.out wr hbr)
          have hbW := HFIB.out wr hbr
          clear hj hxs
          go_wp2_with fail
          refine HF.out.mono ?_
          rintro e w12 ⟨rfl, hb12⟩
          have hbe12 := hbW.trans (hb12.mono hbW.size)
          clear hb12 hbW
          go_wp2
          go_ret
          exact ⟨by simp, hbe12⟩
    · have hl0 : l.length = 0 := by omega
      rw [hl0]
      clear HA11 hl0 h0
      have HF := hid (HFIN.out w11 hbA11)
      have hbW := HFIB.out w11 hbA11
      go_wp2
      go_loop [25] (fun i => i = .int .i64 0) (fun _ => 0)
      case atStart => exact rfl
      case round =>
        obtain rfl := hrel
        go_wp2_with fail
        refine HF.out.mono ?_
        rintro e w12 ⟨rfl, hb12⟩
        have hbe12 := hbW.trans (hb12.mono hbW.size)
        clear hb12 hbW
        go_wp2
        go_ret
        exact ⟨by simp, hbe12⟩
end Go.Proofs.Ytgimdoagccpcdaa.TyLK
