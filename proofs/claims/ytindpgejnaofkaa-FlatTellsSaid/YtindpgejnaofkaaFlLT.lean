/- Walk over fescuelaw04.FlatTells. -/
import Derived.Test.YtindpgejnaofkaaFlLA
import Derived.Test.YtindpgejnaofkaaTyRT
import Derived.Test.YtindpgejnaofkaaFlN
namespace Go.Proofs.Ytindpgejnaofkaa.FlLT
open Go.RowKit Go.Lib Go.Shelf SetP IntO TyM TyP TyB TyC TyD TyE TyS TyF TyH TyK TyQ TyT TyW TyRT TyRE TyN FlM FlQ FlW FlX FlF FlG FlT FlN FlLA

theorem own_tys {B : Nat} {v : Value} {r : List Row} {w : World} {t : List Ty} (h : OwnT B v r w) (hr : r.map Prod.fst = t) (hl : t.length ≤ 20) (hp : ∀ x ∈ t, x.parts.length ≤ 20) : TysAt w v t := by
  subst hr
  rw [List.length_map] at hl
  exact h.tys (by omega) (fun x hx => by have := hp x.1 (List.mem_map.2 ⟨x, hx, rfl⟩); omega)
/-- a row of numbers that is spoiled -/
def MutI (B : Nat) (v : Value) (n : Nat) (w : World) : Prop := ∃ xs, w.ownsRow B 3 1 v n xs
theorem mut_set {B n c : Nat} {ao : Option Addr} {w : World} (h : MutI B (.slice ao n c) n w) (i : Nat) (hi : i < n) (u : Value) :
    ∃ g, ao = some ⟨g, 0, none⟩ ∧ B ≤ g ∧ (∃ y, w.cell? ⟨g, i, none⟩ = some y) ∧ w.frozen? ⟨g, i, none⟩ = false ∧ MutI B (.slice ao n c) n (w.setCell ⟨g, i, none⟩ u) := by
  obtain ⟨xs, h⟩ := h
  have hx : xs.length = n := by have := h.1; omega
  obtain ⟨g, c2, he, hg, _, _, hc⟩ := row_cells h (by omega)
  cases he
  refine ⟨g, rfl, hg, ⟨xs[i]'(by omega), hc i _ (List.getElem?_eq_getElem _)⟩, h.frozenAt i, ⟨_, (h.stored i u).1⟩⟩

set_option maxRecDepth 100000 in
set_option maxHeartbeats 4000000 in
theorem walk (W : World) (v : Value) (t : List Ty) (S : TysAt W v t) (_ : ∀ x ∈ t, TyOk x) (k : Int) (_ : (Lit.int .i64 k).wf = true) (n : Int) (_ : (Lit.int .i64 n).wf = true) :
    Calls Try.prog 4 #[v, .int .i64 k, .int .i64 n] W fun e W' => e = .returned (.bool true) ∧ Below W.heap.size W W' := by
  have HG := hid (great_calls v t W S)
  have HGN := hid (@great_no t)
  have HT := hid S
  obtain ⟨ao, cap, rfl⟩ := S.slice
  clear S
  cases hg : greatB t with
  | true =>
    rw [hg] at HG
    clear HGN hg HT
    generalize t.length = tl at *
    go_enter Try.func4, Try.ntmps4
    go_wp2_with fail
    refine HG.out.mono ?_
    rintro e w1 ⟨rfl, hb1⟩
    go_wp2
    go_ret
    exact ⟨rfl, hb1⟩
  | false =>
    rw [hg] at HG
    obtain ⟨hl20, hp20⟩ := HGN.out hg
    have HTW := hid (fun wx (hb : Below W.heap.size W wx) => twinR_calls _ t wx (HT.out.below hb) hl20 hp20)
    have HOT := hid (fun (B : Nat) (v : Value) (r : List Row) (w : World) (h : OwnT B v r w) hr => own_tys h hr hl20 hp20)
    have P1 := hid (fun u wx (h : TysAt wx u t) => fields_calls t u k wx h)
    have R1 := hid (fun u wx (h : TysAt wx u t) => fieldsR_calls t u k wx h)
    have P2 := hid (fun u wx (h : TysAt wx u t) => flat_calls t u k n wx h)
    have R2 := hid (fun u wx (h : TysAt wx u t) => flatR_calls t u k n wx h)
    have P3 := hid (fun u wx (h : TysAt wx u t) => step_calls t u k n wx h)
    have R3 := hid (fun u wx (h : TysAt wx u t) => stepR_calls t u k n wx h)
    have RS := hid (fun u y wx (h : TysAt wx u t) (h2 : TysAt wx y t) => sameR_calls u y t t wx h h2)
    rw [decide_eq_true rfl] at RS
    have hfl := flat_len t k
    clear HGN hg hp20 hl20
    generalize flatT t k = fl at *
    generalize askT t k = er at *
    generalize flatC t k n = fc at *
    generalize flatE t k n = fe at *
    generalize stepTy t k n = st at *
    generalize partE t k n = pe at *
    generalize t.length = tl at *
    go_enter Try.func4, Try.ntmps4
    go_wp2_with fail
    refine HG.out.mono ?_
    rintro e w1 ⟨rfl, hb1⟩
    have HTW1 := hid (HTW.out w1 hb1)
    clear HG HTW
    go_wp2_with fail
    refine HTW1.out.mono ?_
    rintro e w2 ⟨own, r, rfl, hr, ho, hb2⟩
    have hB := hb1.trans (hb2.mono hb1.size)
    have hown := HOT.out _ own r w2 ho hr
    have HOW := hid (fun wx (hb : Below w2.heap.size w2 wx) => hown.below hb)
    have HOT2 := hid (fun wx (hb : Below w2.heap.size w2 wx) => (HT.out.below hB).below hb)
    obtain ⟨wo, wn, wc, rfl⟩ : ∃ wo wn wc, own = .slice wo wn wc := by obtain ⟨a, c, h⟩ := hown.slice; exact ⟨a, _, c, h⟩
    have hbe := Below.refl w2.heap.size w2
    have HB := hid hB
    clear hb1 hb2 hB hown ho hr HTW1 HOT HT
    -- Fields, both
    have HC := hid (P1.out _ w2 (HOW.out w2 hbe))
    clear P1
    go_wp2_with fail
    refine HC.out.mono ?_
    rintro e w3 ⟨a, m, rfl, ha, hb3⟩
    obtain rfl := own_len ha
    obtain ⟨aa, ac, rfl⟩ := own_slice ha
    have HA3 := hid ha
    clear ha HC hbe
    have HC := hid (R1.out _ w3 (HOT2.out w3 hb3))
    clear R1
    go_wp2_with fail
    refine HC.out.mono ?_
    rintro e w4 ⟨b, m, rfl, hb, hb4⟩
    obtain rfl := own_len hb
    obtain ⟨ba, bc, rfl⟩ := own_slice hb
    have hbe4 := hb3.trans (hb4.mono hb3.size)
    have HA4 := hid (ownsRow_below HA3.out hb4)
    have HB4 := hid (intsAt_of_owns hb (by omega))
    clear hb hb3 hb4 HA3 HC
    -- Flat, both
    have HC := hid (P2.out _ w4 (HOW.out w4 hbe4))
    clear P2
    go_wp2_with fail
    refine HC.out.mono ?_
    rintro e w5 ⟨rfl, hb5⟩
    have hbe5 := hbe4.trans (hb5.mono hbe4.size)
    have HA5 := hid (ownsRow_below HA4.out hb5)
    have HB5 := hid (HB4.out.below hb5)
    clear hb5 hbe4 HA4 HB4 HC
    have HC := hid (R2.out _ w5 (HOT2.out w5 hbe5))
    clear R2
    go_wp2_with fail
    refine HC.out.mono ?_
    rintro e w6 ⟨rfl, hb6⟩
    have hbe6 := hbe5.trans (hb6.mono hbe5.size)
    have HA6 := hid (ownsRow_below HA5.out hb6)
    have HB6 := hid (HB5.out.below hb6)
    clear hb6 hbe5 HA5 HB5 HC
    -- Step, both
    have HC := hid (P3.out _ w6 (HOW.out w6 hbe6))
    clear P3
    go_wp2_with fail
    refine HC.out.mono ?_
    rintro e w7 ⟨rfl, hb7⟩
    have hbe7 := hbe6.trans (hb7.mono hbe6.size)
    have HA7 := hid (ownsRow_below HA6.out hb7)
    have HB7 := hid (HB6.out.below hb7)
    clear hb7 hbe6 HA6 HB6 HC
    have HC := hid (R3.out _ w7 (HOT2.out w7 hbe7))
    clear R3
    go_wp2_with fail
    refine HC.out.mono ?_
    rintro e w8 ⟨rfl, hb8⟩
    have hbe8 := hbe7.trans (hb8.mono hbe7.size)
    have HA8 := hid (ownsRow_below HA7.out hb8)
    have HB8 := hid (HB7.out.below hb8)
    clear hb8 hbe7 HA7 HB7 HC
    have HC := hid (sameInts_calls _ _ fl fl w8 (intsAt_of_owns HA8.out (by omega)) HB8.out)
    rw [decide_eq_true rfl] at HC
    go_wp2_with fail
    refine HC.out.mono ?_
    rintro e w9 ⟨rfl, hb9⟩
    have hbe9 := hbe8.trans (hb9.mono hbe8.size)
    have HM : Hid (MutI w2.heap.size (.slice aa fl.length ac) fl.length w9) := ⟨_, ownsRow_below HA8.out hb9⟩
    clear hb9 hbe8 HA8 HB8 HC
    generalize fl.length = fn at *
    go_wp2
    go_loopg [21] fn (fun gk iv wr => ∃ i : Nat, i + gk = fn ∧ iv = .int .i64 i ∧ MutI w2.heap.size (.slice aa fn ac) fn wr ∧ Below w2.heap.size w2 wr)
    case atStart => exact ⟨0, by omega, rfl, HM.out, hbe9⟩
    case round =>
      obtain ⟨i, hi, rfl, hmut, hbe⟩ := hrel
      have HI := hid hi
      have HMU := hid hmut
      clear hi hmut
      by_cases hlt : i < fn
      · obtain ⟨g, rfl, hgB, ⟨y, hy⟩, hfz, hmut2⟩ := mut_set HMU.out i hlt (.int .i64 (-7))
        have HM2 := hid hmut2
        have HBE := hid (hbe.setCell (p := ⟨g, i, none⟩) hgB (.int .i64 (-7)))
        clear hmut2 HM
        go_wp2
        go_roundg (gk - 1)
        case measure => have := HI.out; omega
        case rel => exact ⟨i + 1, by have := HI.out; omega, by go_num, HM2.out, HBE.out⟩
      · obtain rfl : i = fn := by have := HI.out; omega
        have HC := hid (RS.out _ _ wr (HOW.out wr hbe) (HOT2.out wr hbe))
        go_wp2_with fail
        refine HC.out.mono ?_
        rintro e wf ⟨rfl, hbf⟩
        have hbx := HB.out.trans ((hbe.trans (hbf.mono hbe.size)).mono HB.out.size)
        clear hbf hbe HC
        go_wp2
        go_ret
        exact ⟨by simp, hbx⟩
end Go.Proofs.Ytindpgejnaofkaa.FlLT
